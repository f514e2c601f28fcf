/- The reference's QuoRem, DivMod, Div, Quo, Sign and GCD: contracts. -/
import Derived.Test.YtfopcipapphogaaBig18
import Derived.Test.YtfopcipapphogaaBig19
namespace Go.Proofs.Ytfopcipapphogaa
open Go.RowKit

/-- What QuoRem divides here: a number below 2^64 either way, or one that is not below 0. -/
def Divs (x : Int) : Prop := x.natAbs < 18446744073709551616 ∨ 0 ≤ x
theorem quo_any (gz gx gy gr : Nat) (x : Int) (Y : Nat) (w : World) (hz : Room w gz) (hr : Room w gr) (hx : IntAt w gx x) (hy : IntAt w gy Y) (n1 : gx ≠ gr) (n2 : gz ≠ gr) (h0 : 0 < Y) (hd : Divs x) :
    Calls Try.prog 68 #[.pointer (some ⟨gz, 0, none⟩), .pointer (some ⟨gx, 0, none⟩), .pointer (some ⟨gy, 0, none⟩), .pointer (some ⟨gr, 0, none⟩)] w fun e w' =>
      e = .returned (.tuple #[.pointer (some ⟨gz, 0, none⟩), .pointer (some ⟨gr, 0, none⟩)]) ∧ Kept2 w w' gz gr ∧ IntAt w' gz (x.tdiv Y) ∧ IntAt w' gr (x.tmod Y) := by
  rcases Nat.lt_or_ge x.natAbs Y with h | h
  · have e1 : x.tdiv Y = 0 := Int.natAbs_eq_zero.1 (by rw [Int.natAbs_tdiv]; exact Nat.div_eq_of_lt (by omega))
    have e2 : x.tmod Y = x := by
      have := Int.mul_tdiv_add_tmod x Y
      rw [e1, Int.mul_zero] at this
      omega
    rw [e1, e2]
    exact quo_less gz gx gy gr x Y w hz hr hx hy n1 n2 (by omega)
  · rcases Nat.lt_or_ge x.natAbs 18446744073709551616 with k | k
    · exact quo_small gz gx gy gr x Y w hz hr hx hy n2 h0 h k
    · have hx0 : 0 ≤ x := by rcases hd with hd | hd <;> omega
      obtain ⟨X, rfl⟩ : ∃ X : Nat, x = X := ⟨x.toNat, by omega⟩
      rw [← Int.ofNat_tdiv, ← Int.ofNat_tmod]
      exact quo_parts gz gx gy gr X Y w hz hr hx hy n2 h0 (by omega) (by omega)

theorem floor_pos {x y : Int} (hy : 0 < y) (h : 0 ≤ x.tmod y) : x / y = x.tdiv y ∧ x % y = x.tmod y := by
  have e := Int.mul_tdiv_add_tmod x y
  have l : x.tmod y < y := Int.tmod_lt_of_pos x hy
  exact (Int.ediv_emod_unique (r := x.tmod y) hy).2 ⟨by omega, h, l⟩
theorem floor_neg {x y : Int} (hy : 0 < y) (h : x.tmod y < 0) : x / y = x.tdiv y - 1 ∧ x % y = x.tmod y + y := by
  have e := Int.mul_tdiv_add_tmod x y
  have l : -y < x.tmod y := Int.lt_tmod_of_pos x hy
  refine (Int.ediv_emod_unique (r := x.tmod y + y) hy).2 ⟨?_, by omega, by omega⟩
  rw [Int.mul_sub, Int.mul_one]
  omega
theorem fits_natAbs {x : Int} (h : x.natAbs ≤ 36893488147419103232) : Fits x.natAbs := Fits.of (k := 3) (by omega) (by decide)

theorem divmod_int (gz gx gy gm : Nat) (x : Int) (Y : Nat) (w : World) (hz : Room w gz) (hm : Room w gm) (hx : IntAt w gx x) (hy : IntAt w gy Y) (n1 : gx ≠ gm) (n2 : gz ≠ gm) (h0 : 0 < Y) (hd : Divs x) (hY : Fits Y) :
    Calls Try.prog 29 #[.pointer (some ⟨gz, 0, none⟩), .pointer (some ⟨gx, 0, none⟩), .pointer (some ⟨gy, 0, none⟩), .pointer (some ⟨gm, 0, none⟩)] w fun e w' =>
      e = .returned (.tuple #[.pointer (some ⟨gz, 0, none⟩), .pointer (some ⟨gm, 0, none⟩)]) ∧ Kept2 w w' gz gm ∧ IntAt w' gz (x / Y) ∧ IntAt w' gm (x % Y) := by
  have hQ := fun w1 (a1 : Room w1 gz) (a2 : Room w1 gm) (a3 : IntAt w1 gx x) (a4 : IntAt w1 gy Y) => quo_any gz gx gy gm x Y w1 a1 a2 a3 a4 n1 n2 h0 hd
  rcases Int.lt_or_le (x.tmod Y) 0 with h | h
  · obtain ⟨e1, e2⟩ := floor_neg (show (0 : Int) < Y by omega) h
    rw [e1, e2]
    have hxs : x.natAbs < 18446744073709551616 := by
      rcases hd with hd | hd
      · exact hd
      · have := Int.tmod_nonneg (Y : Int) hd
        omega
    have b1 := Int.natAbs_tdiv_le_natAbs x Y
    have b2 : -(Y : Int) < x.tmod Y := Int.lt_tmod_of_pos x (by omega)
    exact divmod_minus gz gx gy gm x _ _ Y w hz hm hx hy n2 h (fits_natAbs (by omega)) (hY.le (by omega)) hQ
  · obtain ⟨e1, e2⟩ := floor_pos (show (0 : Int) < Y by omega) h
    rw [e1, e2]
    exact divmod_plain gz gx gy gm x Y _ _ w hz hm hx hy h hQ

/-- A call that leaves its number in block gz: only that, and what is new, has turned. -/
theorem grown_of_kept2 {w W w' : World} {gz : Nat} (h0 : Below w.heap.size w W) (k : Kept2 W w' gz w.heap.size) : w.grownBy w' (some gz) := by
  have k2 := k.grow h0
  exact ⟨k2.os, k2.tape, k2.output, k2.size, fun j hj hn => k2.block j hj (by simpa using hn) (by omega)⟩

theorem div_int (gz gx gy : Nat) (x : Int) (Y : Nat) (w : World) (hz : Room w gz) (hx : IntAt w gx x) (hy : IntAt w gy Y) (h0 : 0 < Y) (hd : Divs x) (hY : Fits Y) :
    Calls Try.prog 23 #[.pointer (some ⟨gz, 0, none⟩), .pointer (some ⟨gx, 0, none⟩), .pointer (some ⟨gy, 0, none⟩)] w fun e w' =>
      e = .returned (.pointer (some ⟨gz, 0, none⟩)) ∧ w.grownBy w' (some gz) ∧ IntAt w' gz (x / Y) := by
  have hb := (Below.refl w.heap.size w).alloc (Nat.le_refl _) (.cells #[.bool false, .slice none 0 0] 32)
  have lz := hz.lt
  have lx := hx.room.lt
  go_enter Try.func23, Try.ntmps23
  go_wp2_with fail
  refine (divmod_int gz gx gy w.heap.size x Y _ (hz.below hb) (room_new w) (hx.below hb) (hy.below hb) (by omega) (by omega) h0 hd hY).mono ?_
  rintro e w' ⟨rfl, k, i, _⟩
  go_wp2
  go_ret
  exact ⟨rfl, grown_of_kept2 hb k, i⟩

theorem quo_int (gz gx gy : Nat) (x : Int) (Y : Nat) (w : World) (hz : Room w gz) (hx : IntAt w gx x) (hy : IntAt w gy Y) (h0 : 0 < Y) (hd : Divs x) :
    Calls Try.prog 87 #[.pointer (some ⟨gz, 0, none⟩), .pointer (some ⟨gx, 0, none⟩), .pointer (some ⟨gy, 0, none⟩)] w fun e w' =>
      e = .returned (.pointer (some ⟨gz, 0, none⟩)) ∧ w.grownBy w' (some gz) ∧ IntAt w' gz (x.tdiv Y) := by
  have hb := (Below.refl w.heap.size w).alloc (Nat.le_refl _) (.cells #[.bool false, .slice none 0 0] 32)
  have lz := hz.lt
  have lx := hx.room.lt
  go_enter Try.func87, Try.ntmps87
  go_wp2_with fail
  refine (quo_any gz gx gy w.heap.size x Y _ (hz.below hb) (room_new w) (hx.below hb) (hy.below hb) (by omega) (by omega) h0 hd).mono ?_
  rintro e w' ⟨rfl, k, i, _⟩
  go_wp2
  go_ret
  exact ⟨rfl, grown_of_kept2 hb k, i⟩

theorem sign_zero (gx : Nat) (w : World) (hx : IntAt w gx 0) :
    Calls Try.prog 64 #[.pointer (some ⟨gx, 0, none⟩)] w fun e w' => e = .returned (.int .i64 0) ∧ w = w' := by
  obtain ⟨s, A, n, c, f, hg, h1, h2, hd, hs, ht, hz1, ev⟩ := hx
  have hn : n = 0 := by
    rcases Nat.eq_zero_or_pos n with h | h
    · exact h
    · have := val_ge h (ht h)
      have p : 0 < 4294967296 ^ (n - 1) := Nat.pow_pos (by decide)
      cases s <;> simp [sg] at ev <;> omega
  subst hn
  have c1 : w.cell? ⟨gx, 1, none⟩ = some (.slice A 0 c) := hg.cell (by decide)
  go_enter Try.func64, Try.ntmps64
  go_wp2
  go_ret
  exact ⟨rfl, rfl⟩
theorem len_of_ne {s : Bool} {n : Nat} {f : Nat → Nat} (h : sg s (val n f) ≠ 0) : 0 < n := by
  rcases Nat.eq_zero_or_pos n with e | e
  · subst e
    exact absurd (by cases s <;> simp [sg, val]) h
  · exact e
theorem sign_plus (gx : Nat) (x : Int) (w : World) (hx : IntAt w gx x) (h : 0 < x) :
    Calls Try.prog 64 #[.pointer (some ⟨gx, 0, none⟩)] w fun e w' => e = .returned (.int .i64 1) ∧ w = w' := by
  have c0 := hx.plus (by omega)
  obtain ⟨s, A, n, c, f, hg, h1, h2, hd, hs, ht, hz1, rfl⟩ := hx
  have hn := len_of_ne (s := s) (n := n) (f := f) (by omega)
  have c1 : w.cell? ⟨gx, 1, none⟩ = some (.slice A n c) := hg.cell (by decide)
  have hb : ((n : Int) == 0) = false := by simp; omega
  go_enter Try.func64, Try.ntmps64
  go_wp2
  go_ret
  exact ⟨rfl, rfl⟩
theorem sign_minus (gx : Nat) (x : Int) (w : World) (hx : IntAt w gx x) (h : x < 0) :
    Calls Try.prog 64 #[.pointer (some ⟨gx, 0, none⟩)] w fun e w' => e = .returned (.int .i64 (-1)) ∧ w = w' := by
  have c0 := hx.minus h
  obtain ⟨s, A, n, c, f, hg, h1, h2, hd, hs, ht, hz1, rfl⟩ := hx
  have hn := len_of_ne (s := s) (n := n) (f := f) (by omega)
  have c1 : w.cell? ⟨gx, 1, none⟩ = some (.slice A n c) := hg.cell (by decide)
  have hb : ((n : Int) == 0) = false := by simp; omega
  go_enter Try.func64, Try.ntmps64
  go_wp2
  go_ret
  exact ⟨rfl, rfl⟩
end Go.Proofs.Ytfopcipapphogaa
