/- The reference's QuoRem and Quo below 2^64, Sign: contracts. -/
import Derived.Test.YtemoleopabddnaaBig7a
import Derived.Test.YtemoleopabddnaaBig18
import Derived.Test.YtemoleopabddnaaBig19
namespace Go.Proofs.Ytemoleopabddnaa
open Go.RowKit

/-- QuoRem of a number below 2^64 either way. -/
theorem quo_near (gz gx gy gr : Nat) (x : Int) (Y : Nat) (w : World) (hz : Room w gz) (hr : Room w gr) (hx : IntAt w gx x) (hy : IntAt w gy Y) (n1 : gx ≠ gr) (n2 : gz ≠ gr) (h0 : 0 < Y) (hd : x.natAbs < 18446744073709551616) :
    Calls Try.prog 60 #[.pointer (some ⟨gz, 0, none⟩), .pointer (some ⟨gx, 0, none⟩), .pointer (some ⟨gy, 0, none⟩), .pointer (some ⟨gr, 0, none⟩)] w fun e w' =>
      e = .returned (.tuple #[.pointer (some ⟨gz, 0, none⟩), .pointer (some ⟨gr, 0, none⟩)]) ∧ Kept2 w w' gz gr ∧ IntAt w' gz (x.tdiv Y) ∧ IntAt w' gr (x.tmod Y) := by
  rcases Nat.lt_or_ge x.natAbs Y with h | h
  · have e1 : x.tdiv Y = 0 := Int.natAbs_eq_zero.1 (by rw [Int.natAbs_tdiv]; exact Nat.div_eq_of_lt (by omega))
    have e2 : x.tmod Y = x := by
      have := Int.mul_tdiv_add_tmod x Y
      rw [e1, Int.mul_zero] at this
      omega
    rw [e1, e2]
    exact quo_less gz gx gy gr x Y w hz hr hx hy n1 n2 (by omega)
  · exact quo_small gz gx gy gr x Y w hz hr hx hy n2 h0 h hd

theorem fits_natAbs {x : Int} (h : x.natAbs ≤ 36893488147419103232) : Fits x.natAbs := Fits.of (k := 3) (by omega) (by decide)

/-- A call that leaves its number in block gz: only that, and what is new, has turned. -/
theorem grown_of_kept2 {w W w' : World} {gz : Nat} (h0 : Below w.heap.size w W) (k : Kept2 W w' gz w.heap.size) : w.grownBy w' (some gz) := by
  have k2 := k.grow h0
  exact ⟨k2.os, k2.tape, k2.output, k2.size, fun j hj hn => k2.block j hj (by simpa using hn) (by omega)⟩

theorem quo_nearInt (gz gx gy : Nat) (x : Int) (Y : Nat) (w : World) (hz : Room w gz) (hx : IntAt w gx x) (hy : IntAt w gy Y) (h0 : 0 < Y) (hd : x.natAbs < 18446744073709551616) :
    Calls Try.prog 46 #[.pointer (some ⟨gz, 0, none⟩), .pointer (some ⟨gx, 0, none⟩), .pointer (some ⟨gy, 0, none⟩)] w fun e w' =>
      e = .returned (.pointer (some ⟨gz, 0, none⟩)) ∧ w.grownBy w' (some gz) ∧ IntAt w' gz (x.tdiv Y) := by
  have hb := (Below.refl w.heap.size w).alloc (Nat.le_refl _) (.cells #[.bool false, .slice none 0 0] 45)
  have lz := hz.lt
  have lx := hx.room.lt
  go_enter Try.func46, Try.ntmps46
  go_wp2_with fail
  refine (quo_near gz gx gy w.heap.size x Y _ (hz.below hb) (room_new w) (hx.below hb) (hy.below hb) (by omega) (by omega) h0 hd).mono ?_
  rintro e w' ⟨rfl, k, i, _⟩
  go_wp2
  go_ret
  exact ⟨rfl, grown_of_kept2 hb k, i⟩

theorem sign_zero (gx : Nat) (w : World) (hx : IntAt w gx 0) :
    Calls Try.prog 38 #[.pointer (some ⟨gx, 0, none⟩)] w fun e w' => e = .returned (.int .i64 0) ∧ w = w' := by
  obtain ⟨s, A, n, c, f, hg, h1, h2, hd, hs, ht, hz1, ev⟩ := hx
  have hn : n = 0 := by
    rcases Nat.eq_zero_or_pos n with h | h
    · exact h
    · have := val_ge h (ht h)
      have p : 0 < 4294967296 ^ (n - 1) := Nat.pow_pos (by decide)
      cases s <;> simp [sg] at ev <;> omega
  subst hn
  have c1 : w.cell? ⟨gx, 1, none⟩ = some (.slice A 0 c) := hg.cell (by decide)
  go_enter Try.func38, Try.ntmps38
  go_wp2
  go_ret
  exact ⟨rfl, rfl⟩
theorem len_of_ne {s : Bool} {n : Nat} {f : Nat → Nat} (h : sg s (val n f) ≠ 0) : 0 < n := by
  rcases Nat.eq_zero_or_pos n with e | e
  · subst e
    exact absurd (by cases s <;> simp [sg, val]) h
  · exact e
theorem sign_plus (gx : Nat) (x : Int) (w : World) (hx : IntAt w gx x) (h : 0 < x) :
    Calls Try.prog 38 #[.pointer (some ⟨gx, 0, none⟩)] w fun e w' => e = .returned (.int .i64 1) ∧ w = w' := by
  have c0 := hx.plus (by omega)
  obtain ⟨s, A, n, c, f, hg, h1, h2, hd, hs, ht, hz1, rfl⟩ := hx
  have hn := len_of_ne (s := s) (n := n) (f := f) (by omega)
  have c1 : w.cell? ⟨gx, 1, none⟩ = some (.slice A n c) := hg.cell (by decide)
  have hb : ((n : Int) == 0) = false := by simp; omega
  go_enter Try.func38, Try.ntmps38
  go_wp2
  go_ret
  exact ⟨rfl, rfl⟩
theorem sign_minus (gx : Nat) (x : Int) (w : World) (hx : IntAt w gx x) (h : x < 0) :
    Calls Try.prog 38 #[.pointer (some ⟨gx, 0, none⟩)] w fun e w' => e = .returned (.int .i64 (-1)) ∧ w = w' := by
  have c0 := hx.minus h
  obtain ⟨s, A, n, c, f, hg, h1, h2, hd, hs, ht, hz1, rfl⟩ := hx
  have hn := len_of_ne (s := s) (n := n) (f := f) (by omega)
  have c1 : w.cell? ⟨gx, 1, none⟩ = some (.slice A n c) := hg.cell (by decide)
  have hb : ((n : Int) == 0) = false := by simp; omega
  go_enter Try.func38, Try.ntmps38
  go_wp2
  go_ret
  exact ⟨rfl, rfl⟩
end Go.Proofs.Ytemoleopabddnaa
