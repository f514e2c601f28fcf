/- Neg, Sub and Cmp of the reference's Rat: contracts. -/
import Derived.Test.YtemoleopabddnaaRat4
namespace Go.Proofs.Ytemoleopabddnaa
open Go.RowKit

set_option maxRecDepth 100000 in
set_option maxHeartbeats 1000000 in
theorem rneg_any (gz gx : Nat) (x1 y1 : Int) (w : World) (Rz : RatRoom w gz) (Qx : RatAt w gx x1 y1) (p1 : 0 < y1) (h1 : x1.natAbs < 9223372036854775808) (h2 : y1.natAbs < 9223372036854775808) :
    Calls Try.prog 44 #[.pointer (some ⟨gz, 0, none⟩), .pointer (some ⟨gx, 0, none⟩)] w fun e w' =>
      e = .returned (.pointer (some ⟨gz, 0, none⟩)) ∧ w.grownBy w' (some gz) ∧ RatAt w' gz (lN (-x1) (y1)) (lD (-x1) (y1)) := by
  have B := Below.refl w.heap.size w
  have hs0 := B.size
  have lz := Rz.lt
  have lx := Qx.room.lt
  go_enter Try.func44, Try.ntmps44
  obtain ⟨s, A, n, c, s1, A1, n1, c1, hr, hnum, _⟩ := id Qx
  have b0 := (Below.refl w.heap.size w).alloc (Nat.le_refl _) (.cells #[.bool false, .slice none 0 0] 45)
  have hr0 := hr.of_block (b0.block gx hr.lt)
  go_wp2_with fail
  refine (neg_part w.heap.size gx 0 s A n c x1 _ (by omega) (hr0.cell (i := 0) (by decide)) (hr0.cell (i := 1) (by decide)) hr0.lt (room_new w) (hnum.below b0)).mono ?_
  rintro e w1 ⟨rfl, gr, Ia⟩
  have b1 : Below w.heap.size w w1 := below_of_grown b0 gr (Nat.le_refl _)
  replace Qx := Qx.below b1
  replace Rz := Rz.below b1
  replace B := below_of B b1 B.size
  have sw1 := b1.size
  have la := Ia.room.lt
  go_wp2_with fail
  with_reducible refine (denom_any gx x1 y1 _ Qx p1).mono ?_
  rintro e w2 ⟨gd, hgd, rfl, hb, Id⟩
  have b2 : Below w1.heap.size w1 w2 := hb
  replace Ia := Ia.below b2
  replace Qx := Qx.below b2
  replace Rz := Rz.below b2
  replace B := below_of B b2 B.size
  have sw2 := b2.size
  have ld := Id.room.lt
  go_wp2_with fail
  with_reducible refine (setFrac_int gz w.heap.size gd (-x1) (y1) _ Rz Ia Id p1 (by omega) (by omega)).mono ?_
  rintro e wz ⟨rfl, gr, Iz⟩
  go_wp2
  go_ret
  exact ⟨rfl, grown_trans (grown_of_below B) gr, Iz⟩

theorem low_abs {a b : Int} (hb : 0 < b) : (lN a b).natAbs ≤ a.natAbs ∧ (lD a b).natAbs ≤ b.natAbs := by
  have h1 := lN_abs (n := a) (d := b) (B := a.natAbs) hb (by omega) (by omega)
  have h2 := lD_le (n := a) hb
  have h3 := lD_pos (n := a) hb
  omega
theorem mul_small {a b : Int} {A B : Nat} (ha : a.natAbs ≤ A) (hb : b.natAbs ≤ B) : (a * b).natAbs ≤ A * B := by
  rw [Int.natAbs_mul]
  exact Nat.mul_le_mul ha hb

set_option maxRecDepth 100000 in
set_option maxHeartbeats 1000000 in
theorem rsub_wide (gz gx gy : Nat) (x1 y1 x2 y2 : Int) (w : World) (Rz : RatRoom w gz) (Qx : RatAt w gx x1 y1) (Qy : RatAt w gy x2 y2) (p1 : 0 < y1) (p2 : 0 < y2) (h1 : (x1 * y2).natAbs < 4611686018427387904) (h2 : (x2 * y1).natAbs < 4611686018427387904) (h3 : (y1 * y2).natAbs < 9223372036854775808) :
    Calls Try.prog 31 #[.pointer (some ⟨gz, 0, none⟩), .pointer (some ⟨gx, 0, none⟩), .pointer (some ⟨gy, 0, none⟩)] w fun e w' =>
      e = .returned (.pointer (some ⟨gz, 0, none⟩)) ∧ w.grownBy w' (some gz) ∧ RatAt w' gz (lN (x1 * lD (-x2) y2 + lN (-x2) y2 * y1) (y1 * lD (-x2) y2)) (lD (x1 * lD (-x2) y2 + lN (-x2) y2 * y1) (y1 * lD (-x2) y2)) := by
  have B := Below.refl w.heap.size w
  have hs0 := B.size
  have lz := Rz.lt
  have lx := Qx.room.lt
  have ly := Qy.room.lt
  have l1 := low_abs (a := -x2) p2
  have l2 := lD_pos (n := -x2) p2
  have u1 : (x1 * lD (-x2) y2).natAbs ≤ (x1 * y2).natAbs := by rw [Int.natAbs_mul, Int.natAbs_mul]; exact Nat.mul_le_mul_left _ l1.2
  have u2 : (lN (-x2) y2 * y1).natAbs ≤ (x2 * y1).natAbs := by rw [Int.natAbs_mul, Int.natAbs_mul]; exact Nat.mul_le_mul_right _ (by omega)
  have u3 : (y1 * lD (-x2) y2).natAbs ≤ (y1 * y2).natAbs := by rw [Int.natAbs_mul, Int.natAbs_mul]; exact Nat.mul_le_mul_left _ l1.2
  have v1 : x2.natAbs ≤ (x2 * y1).natAbs := by rw [Int.natAbs_mul]; exact Nat.le_mul_of_pos_right _ (by omega)
  have v2 : y2.natAbs ≤ (y1 * y2).natAbs := by rw [Int.natAbs_mul]; exact Nat.le_mul_of_pos_left _ (by omega)
  go_enter Try.func31, Try.ntmps31
  go_wp2_with fail
  obtain ⟨V, hV⟩ : ∃ V, w.alloc (.cells #[.bool false, .slice none 0 0, .bool false, .slice none 0 0] 47) = V := ⟨_, rfl⟩
  have AV : Below w.heap.size w V := hV ▸ (Below.refl _ _).alloc (Nat.le_refl _) _
  have Rr : RatRoom V w.heap.size := hV ▸ rat_new w
  rw [hV]
  refine (rneg_any w.heap.size gy x2 y2 V Rr (Qy.below AV) p2 (by omega) (by omega)).mono ?_
  rintro e w1 ⟨rfl, g1, q1⟩
  have b1 : Below w.heap.size w w1 := below_of_grown AV g1 (Nat.le_refl _)
  go_wp2_with fail
  refine (radd_any gz gx w.heap.size x1 y1 _ _ w1 (Rz.below b1) (Qx.below b1) q1 p1 l2 (by omega) (by omega) (by omega)).mono ?_
  rintro e w2 ⟨rfl, g2, q2⟩
  go_wp2
  go_ret
  exact ⟨rfl, grown_trans (grown_of_below b1) g2, q2⟩

theorem rsub_any (gz gx gy : Nat) (x1 y1 x2 y2 : Int) (w : World) (Rz : RatRoom w gz) (Qx : RatAt w gx x1 y1) (Qy : RatAt w gy x2 y2) (p1 : 0 < y1) (p2 : 0 < y2) (hx : x1.natAbs ≤ 1073741824) (hy : y1.natAbs ≤ 1073741824) (hx2 : x2.natAbs ≤ 1073741824) (hy2 : y2.natAbs ≤ 1073741824) :
    Calls Try.prog 31 #[.pointer (some ⟨gz, 0, none⟩), .pointer (some ⟨gx, 0, none⟩), .pointer (some ⟨gy, 0, none⟩)] w fun e w' =>
      e = .returned (.pointer (some ⟨gz, 0, none⟩)) ∧ w.grownBy w' (some gz) ∧ RatAt w' gz (lN (x1 * lD (-x2) y2 + lN (-x2) y2 * y1) (y1 * lD (-x2) y2)) (lD (x1 * lD (-x2) y2 + lN (-x2) y2 * y1) (y1 * lD (-x2) y2)) :=
  rsub_wide gz gx gy x1 y1 x2 y2 w Rz Qx Qy p1 p2 (by have := mul_small hx hy2; omega) (by have := mul_small hx2 hy; omega) (by have := mul_small hy hy2; omega)

theorem rcmp_wide (gx gy : Nat) (x1 y1 x2 y2 : Int) (w : World) (Qx : RatAt w gx x1 y1) (Qy : RatAt w gy x2 y2) (p1 : 0 < y1) (p2 : 0 < y2) (h1 : (x1 * y2).natAbs < 4611686018427387904) (h2 : (x2 * y1).natAbs < 4611686018427387904) (h3 : (y1 * y2).natAbs < 9223372036854775808) :
    Calls Try.prog 16 #[.pointer (some ⟨gx, 0, none⟩), .pointer (some ⟨gy, 0, none⟩)] w fun e w' => e = .returned (.int .i64 (cmpI (lN (x1 * lD (-x2) y2 + lN (-x2) y2 * y1) (y1 * lD (-x2) y2)) 0)) ∧ Below w.heap.size w w' := by
  obtain ⟨V, hV⟩ : ∃ V, w.alloc (.cells #[.bool false, .slice none 0 0, .bool false, .slice none 0 0] 47) = V := ⟨_, rfl⟩
  have AV : Below w.heap.size w V := hV ▸ (Below.refl _ _).alloc (Nat.le_refl _) _
  have Rr : RatRoom V w.heap.size := hV ▸ rat_new w
  go_enter Try.func16, Try.ntmps16
  go_wp2_with fail
  (try rw [hV])
  refine (rsub_wide w.heap.size gx gy x1 y1 x2 y2 V Rr (Qx.below AV) (Qy.below AV) p1 p2 h1 h2 h3).mono ?_
  rintro e w1 ⟨rfl, g1, q1⟩
  have b1 : Below w.heap.size w w1 := below_of_grown AV g1 (Nat.le_refl _)
  go_wp2_with fail
  refine (rsign_any w.heap.size _ _ w1 q1).mono ?_
  rintro e w2 ⟨rfl, hw⟩
  subst hw
  go_wp2
  go_ret
  exact ⟨rfl, b1⟩
theorem rcmp_any (gx gy : Nat) (x1 y1 x2 y2 : Int) (w : World) (Qx : RatAt w gx x1 y1) (Qy : RatAt w gy x2 y2) (p1 : 0 < y1) (p2 : 0 < y2) (hx : x1.natAbs ≤ 1073741824) (hy : y1.natAbs ≤ 1073741824) (hx2 : x2.natAbs ≤ 1073741824) (hy2 : y2.natAbs ≤ 1073741824) :
    Calls Try.prog 16 #[.pointer (some ⟨gx, 0, none⟩), .pointer (some ⟨gy, 0, none⟩)] w fun e w' => e = .returned (.int .i64 (cmpI (lN (x1 * lD (-x2) y2 + lN (-x2) y2 * y1) (y1 * lD (-x2) y2)) 0)) ∧ Below w.heap.size w w' :=
  rcmp_wide gx gy x1 y1 x2 y2 w Qx Qy p1 p2 (by have := mul_small hx hy2; omega) (by have := mul_small hx2 hy; omega) (by have := mul_small hy hy2; omega)
end Go.Proofs.Ytemoleopabddnaa
