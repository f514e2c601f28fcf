/- The reference's DivMod and Mod: contracts. -/
import Derived.Test.YtfopcipapphogaaBig13
namespace Go.Proofs.Ytfopcipapphogaa
open Go.RowKit

theorem IntAt.minus {w : World} {g : Nat} {z : Int} (h : IntAt w g z) (hz : z < 0) : w.cell? ⟨g, 0, none⟩ = some (.bool true) := by
  obtain ⟨s, A, n, c, f, hr, _, _, _, _, _, _, rfl⟩ := h
  cases s
  · simp [sg] at hz
    omega
  · exact hr.cell (by decide)
theorem IntAt.plus {w : World} {g : Nat} {z : Int} (h : IntAt w g z) (hz : 0 ≤ z) : w.cell? ⟨g, 0, none⟩ = some (.bool false) := by
  obtain ⟨X, rfl⟩ : ∃ X : Nat, z = X := ⟨z.toNat, by omega⟩
  obtain ⟨A, n, c, f, hg, _⟩ := h.nat
  exact hg.cell (by decide)
theorem Kept2.grow {w v w' : World} {a b : Nat} (h0 : Below w.heap.size w v) (h : Kept2 v w' a b) : Kept2 w w' a b :=
  ⟨h.os.trans h0.os, h.tape.trans h0.tape, h.output.trans h0.output, Nat.le_trans h0.size h.size, fun k hk h1 h2 => (h.block k (Nat.lt_of_lt_of_le hk h0.size) h1 h2).trans (h0.block k hk)⟩

/-- DivMod, where QuoRem leaves nothing below 0. -/
theorem divmod_plain (gz gx gy gm : Nat) (x y q r : Int) (w : World) (hz : Room w gz) (hm : Room w gm) (hx : IntAt w gx x) (hy : IntAt w gy y) (hr : 0 ≤ r)
    (hQ : ∀ w1, Room w1 gz → Room w1 gm → IntAt w1 gx x → IntAt w1 gy y → Calls Try.prog 68 #[.pointer (some ⟨gz, 0, none⟩), .pointer (some ⟨gx, 0, none⟩), .pointer (some ⟨gy, 0, none⟩), .pointer (some ⟨gm, 0, none⟩)] w1 fun e w' =>
      e = .returned (.tuple #[.pointer (some ⟨gz, 0, none⟩), .pointer (some ⟨gm, 0, none⟩)]) ∧ Kept2 w1 w' gz gm ∧ IntAt w' gz q ∧ IntAt w' gm r) :
    Calls Try.prog 29 #[.pointer (some ⟨gz, 0, none⟩), .pointer (some ⟨gx, 0, none⟩), .pointer (some ⟨gy, 0, none⟩), .pointer (some ⟨gm, 0, none⟩)] w fun e w' =>
      e = .returned (.tuple #[.pointer (some ⟨gz, 0, none⟩), .pointer (some ⟨gm, 0, none⟩)]) ∧ Kept2 w w' gz gm ∧ IntAt w' gz q ∧ IntAt w' gm r := by
  have hb := (Below.refl w.heap.size w).alloc (Nat.le_refl _) (.cells #[.bool false, .slice none 0 0] 32)
  have ly := hy.room.lt
  go_enter Try.func29, Try.ntmps29
  go_wp2_with fail
  refine (set_int w.heap.size gy y _ (by omega) (room_new w) (hy.below hb)).mono ?_
  rintro e w1 ⟨rfl, g1, i1⟩
  have hb1 : Below w.heap.size w w1 := below_of_grown hb g1 (Nat.le_refl _)
  go_wp2_with fail
  refine (hQ w1 (hz.below hb1) (hm.below hb1) (hx.below hb1) (hy.below hb1)).mono ?_
  rintro e w2 ⟨rfl, k2, j2, m2⟩
  have c0 := m2.plus hr
  go_wp2_with fail
  exact bodyPost_ret (v := .tuple #[.pointer (some ⟨gz, 0, none⟩), .pointer (some ⟨gm, 0, none⟩)]) (by simp [results, Try.results29, go_sem]) rfl
    ⟨rfl, k2.grow hb1, j2, m2⟩

/-- DivMod, where QuoRem leaves something below 0, by a divisor that is not. -/
theorem divmod_minus (gz gx gy gm : Nat) (x q r : Int) (y : Nat) (w : World) (hz : Room w gz) (hm : Room w gm) (hx : IntAt w gx x) (hy : IntAt w gy y) (n2 : gz ≠ gm) (hr : r < 0) (hv : Fits (q - 1).natAbs) (hv2 : Fits (r + y).natAbs)
    (hQ : ∀ w1, Room w1 gz → Room w1 gm → IntAt w1 gx x → IntAt w1 gy y → Calls Try.prog 68 #[.pointer (some ⟨gz, 0, none⟩), .pointer (some ⟨gx, 0, none⟩), .pointer (some ⟨gy, 0, none⟩), .pointer (some ⟨gm, 0, none⟩)] w1 fun e w' =>
      e = .returned (.tuple #[.pointer (some ⟨gz, 0, none⟩), .pointer (some ⟨gm, 0, none⟩)]) ∧ Kept2 w1 w' gz gm ∧ IntAt w' gz q ∧ IntAt w' gm r) :
    Calls Try.prog 29 #[.pointer (some ⟨gz, 0, none⟩), .pointer (some ⟨gx, 0, none⟩), .pointer (some ⟨gy, 0, none⟩), .pointer (some ⟨gm, 0, none⟩)] w fun e w' =>
      e = .returned (.tuple #[.pointer (some ⟨gz, 0, none⟩), .pointer (some ⟨gm, 0, none⟩)]) ∧ Kept2 w w' gz gm ∧ IntAt w' gz (q - 1) ∧ IntAt w' gm (r + y) := by
  have hb := (Below.refl w.heap.size w).alloc (Nat.le_refl _) (.cells #[.bool false, .slice none 0 0] 32)
  have ly := hy.room.lt
  have lz := hz.lt
  have lm := hm.lt
  go_enter Try.func29, Try.ntmps29
  go_wp2_with fail
  refine (set_int w.heap.size gy y _ (by omega) (room_new w) (hy.below hb)).mono ?_
  rintro e w1 ⟨rfl, g1, i1⟩
  have hb1 : Below w.heap.size w w1 := below_of_grown hb g1 (Nat.le_refl _)
  have hz1 := hz.below hb1
  have hm1 := hm.below hb1
  go_wp2_with fail
  refine (hQ w1 hz1 hm1 (hx.below hb1) (hy.below hb1)).mono ?_
  rintro e w2 ⟨rfl, k2, j2, m2⟩
  have i2 := i1.kept2 hz1 hm1 k2 (by omega) (by omega)
  have c0 := m2.minus hr
  have d0 := i2.plus (by omega)
  go_wp2_with fail
  refine (newInt_any 1 w2 (by decide)).mono ?_
  rintro e w3 ⟨g3, hg3, rfl, b3, i3⟩
  have j3 := j2.below b3
  have lz2 := j2.room.lt
  have lm2 := m2.room.lt
  go_wp2_with fail
  refine (sub_int gz gz g3 q 1 w3 j3.room j3 i3 hv).mono ?_
  rintro e w4 ⟨rfl, g4, j4⟩
  have m4 := (m2.below b3).only j3.room g4 (fun e => n2 e.symm)
  have i4 := (i2.below b3).only j3.room g4 (by omega)
  go_wp2_with fail
  refine (add_int gm gm w.heap.size r y w4 m4.room m4 i4 hv2).mono ?_
  rintro e w5 ⟨rfl, g5, m5⟩
  go_wp2_with fail
  exact bodyPost_ret (v := .tuple #[.pointer (some ⟨gz, 0, none⟩), .pointer (some ⟨gm, 0, none⟩)]) (by simp [results, Try.results29, go_sem]) rfl
    ⟨rfl, ((((k2.below b3).left g4).right g5).grow hb1), j4.only m4.room g5 n2, m5⟩

/-- Mod, by a divisor above 0: of a number below it either way, or of a great one. -/
theorem mod_int (gz gx gy : Nat) (x : Int) (Y : Nat) (w : World) (hz : Room w gz) (hx : IntAt w gx x) (hy : IntAt w gy Y) (n1 : gx ≠ gz) (h0 : 0 < Y) (hf : Fits Y) (hc : x.natAbs < Y ∨ (18446744073709551616 ≤ x ∧ (Y : Int) ≤ x)) :
    Calls Try.prog 55 #[.pointer (some ⟨gz, 0, none⟩), .pointer (some ⟨gx, 0, none⟩), .pointer (some ⟨gy, 0, none⟩)] w fun e w' =>
      e = .returned (.pointer (some ⟨gz, 0, none⟩)) ∧ w.grownBy w' (some gz) ∧ IntAt w' gz (x % Y) := by
  have hb := (Below.refl w.heap.size w).alloc (Nat.le_refl _) (.cells #[.bool false, .slice none 0 0] 32)
  have lz := hz.lt
  have ne : w.heap.size ≠ gz := by omega
  have hD : Calls Try.prog 29 #[.pointer (some ⟨w.heap.size, 0, none⟩), .pointer (some ⟨gx, 0, none⟩), .pointer (some ⟨gy, 0, none⟩), .pointer (some ⟨gz, 0, none⟩)] (w.alloc (.cells #[.bool false, .slice none 0 0] 32)) fun e w' =>
      e = .returned (.tuple #[.pointer (some ⟨w.heap.size, 0, none⟩), .pointer (some ⟨gz, 0, none⟩)]) ∧ Kept2 (w.alloc (.cells #[.bool false, .slice none 0 0] 32)) w' w.heap.size gz ∧ (∃ q, IntAt w' w.heap.size q) ∧ IntAt w' gz (x % Y) := by
    rcases hc with hc | ⟨hc, hc2⟩
    · rcases Int.lt_or_le x 0 with hneg | hpos
      · have e : x % (Y : Int) = x + Y := by
          rw [← Int.add_emod_right, Int.emod_eq_of_lt (by omega) (by omega)]
        rw [e]
        exact (divmod_minus w.heap.size gx gy gz x 0 x Y _ (room_new w) (hz.below hb) (hx.below hb) (hy.below hb) ne hneg (Fits.of (k := 1) (by decide) (by decide)) (hf.le (by omega))
          (fun w1 a1 a2 a3 a4 => quo_less w.heap.size gx gy gz x Y w1 a1 a2 a3 a4 n1 ne (by omega))).mono fun _ _ ⟨a, b, c, d⟩ => ⟨a, b, ⟨_, c⟩, d⟩
      · rw [Int.emod_eq_of_lt hpos (by omega)]
        exact (divmod_plain w.heap.size gx gy gz x Y 0 x _ (room_new w) (hz.below hb) (hx.below hb) (hy.below hb) hpos
          (fun w1 a1 a2 a3 a4 => quo_less w.heap.size gx gy gz x Y w1 a1 a2 a3 a4 n1 ne (by omega))).mono fun _ _ ⟨a, b, c, d⟩ => ⟨a, b, ⟨_, c⟩, d⟩
    · obtain ⟨X, rfl⟩ : ∃ X : Nat, x = X := ⟨x.toNat, by omega⟩
      rw [show ((X : Int) % (Y : Int)) = ((X % Y : Nat) : Int) by push_cast; rfl]
      exact (divmod_plain w.heap.size gx gy gz X Y (X / Y : Nat) (X % Y : Nat) _ (room_new w) (hz.below hb) (hx.below hb) (hy.below hb) (by omega)
        (fun w1 a1 a2 a3 a4 => quo_parts w.heap.size gx gy gz X Y w1 a1 a2 a3 a4 ne h0 (by omega) (by omega))).mono fun _ _ ⟨a, b, c, d⟩ => ⟨a, b, ⟨_, c⟩, d⟩
  go_enter Try.func55, Try.ntmps55
  go_wp2_with fail
  refine hD.mono ?_
  rintro e w' ⟨rfl, k, _, i⟩
  go_wp2
  go_ret
  have k2 := k.grow hb
  exact ⟨rfl, ⟨k2.os, k2.tape, k2.output, k2.size, fun j hj hn => k2.block j hj (by omega) (by simpa using hn)⟩, i⟩
end Go.Proofs.Ytfopcipapphogaa
