/- The reference's Rat by its worth: new, Set, Add, Sub, Mul, Quo, Cmp, Sign: contracts. -/
import Derived.Test.YtemoleopabddnaaRat5
namespace Go.Proofs.Ytemoleopabddnaa
open Go.RowKit

/-- The fraction a / b, b above 0, lies in block g, in lowest terms. -/
structure RatV (w : World) (g : Nat) (a b : Int) : Prop where
  pos : 0 < b
  at_ : RatAt w g (lN a b) (lD a b)
namespace RatV
variable {w w' : World} {g : Nat} {a b : Int}
theorem below (h : RatV w g a b) (hb : Below w.heap.size w w') : RatV w' g a b := ⟨h.pos, h.at_.below hb⟩
theorem room (h : RatV w g a b) : RatRoom w g := h.at_.room
theorem eq (h : RatV w g a b) {a' b' : Int} (hp : 0 < b') (e : a * b' = a' * b) : RatV w g a' b' := by
  obtain ⟨e1, e2⟩ := low_eq (n := a) (d := b) (n' := a') (d' := b') h.pos hp e
  exact ⟨hp, by rw [← e1, ← e2]; exact h.at_⟩
theorem low (h : RatV w g a b) : 0 < lD a b ∧ (lN a b).natAbs ≤ a.natAbs ∧ (lD a b).natAbs ≤ b.natAbs := ⟨lD_pos h.pos, low_abs h.pos⟩
end RatV
theorem ratv_zero (w : World) : RatV (w.alloc (.cells #[.bool false, .slice none 0 0, .bool false, .slice none 0 0] 47)) w.heap.size 0 1 := ⟨by decide, rat_zero w⟩
/-- A call made a fraction. -/
def MadeV (w : World) (a b : Int) (e : Ending) (w' : World) : Prop := ∃ g : Nat, w.heap.size ≤ g ∧ e = .returned (.pointer (some ⟨g, 0, none⟩)) ∧ Below w.heap.size w w' ∧ RatV w' g a b
/-- A call left a fraction in block gz. -/
def LeftV (w : World) (gz : Nat) (a b : Int) (e : Ending) (w' : World) : Prop := e = .returned (.pointer (some ⟨gz, 0, none⟩)) ∧ w.grownBy w' (some gz) ∧ RatV w' gz a b
theorem low_low {a b c d a' b' : Int} (hb : 0 < b) (hd : 0 < d) (he : 0 < b') (e : a' * (b * d) = (a * c) * b') : lN (lN a b * lN c d) (lD a b * lD c d) = lN a' b' ∧ lD (lN a b * lN c d) (lD a b * lD c d) = lD a' b' := by
  refine low_eq (Int.mul_pos (lD_pos hb) (lD_pos hd)) he ?_
  have h1 := lN_mul a b
  have h2 := lD_mul a b
  have h3 := lN_mul c d
  have h4 := lD_mul c d
  have g1 := gF_pos (n := a) hb
  have g2 := gF_pos (n := c) hd
  generalize lN a b = A at *
  generalize lD a b = B at *
  generalize lN c d = C at *
  generalize lD c d = D at *
  generalize gF a b = G at *
  generalize gF c d = H at *
  subst h1 h2 h3 h4
  have hp : 0 < G * H := Int.mul_pos g1 g2
  refine Int.eq_of_mul_eq_mul_right (a := G * H) (by omega) ?_
  have e1 : A * C * b' * (G * H) = A * G * (C * H) * b' := by ac_rfl
  have e2 : a' * (B * D) * (G * H) = a' * (B * G * (D * H)) := by ac_rfl
  rw [e1, e2, e]
theorem sum_low {a b c d : Int} (hb : 0 < b) (hd : 0 < d) {A B C D : Int} (hB : 0 < B) (hD : 0 < D) (h1 : A * b = a * B) (h2 : C * d = c * D) : lN (A * D + C * B) (B * D) = lN (a * d + c * b) (b * d) ∧ lD (A * D + C * B) (B * D) = lD (a * d + c * b) (b * d) := by
  refine low_eq (Int.mul_pos hB hD) (Int.mul_pos hb hd) ?_
  have e1 : (A * D + C * B) * (b * d) = A * b * (D * d) + C * d * (B * b) := by
    rw [Int.add_mul]
    congr 1 <;> ac_rfl
  have e2 : (a * d + c * b) * (B * D) = a * B * (D * d) + c * D * (B * b) := by
    rw [Int.add_mul]
    congr 1 <;> ac_rfl
  rw [e1, e2, h1, h2]
theorem low_cross (a b : Int) : lN a b * b = a * lD a b := by
  have h1 := lN_mul a b
  have h2 := lD_mul a b
  calc lN a b * b = lN a b * (lD a b * gF a b) := by rw [h2]
    _ = lN a b * gF a b * lD a b := by ac_rfl
    _ = a * lD a b := by rw [h1]
theorem abs_prod {a b c d : Int} (h1 : a.natAbs ≤ b.natAbs) (h2 : c.natAbs ≤ d.natAbs) : (a * c).natAbs ≤ (b * d).natAbs := by
  rw [Int.natAbs_mul, Int.natAbs_mul]
  exact Nat.mul_le_mul h1 h2

theorem vnew (a b : Int) (w : World) (h0 : -9223372036854775808 ≤ a) (h1 : a < 9223372036854775808) (h2 : 0 < b) (h3 : b < 9223372036854775808) :
    Calls Try.prog 15 #[.int .i64 a, .int .i64 b] w (MadeV w a b) := by
  refine (newRat_any a b w h0 h1 h2 h3).mono ?_
  rintro e w' ⟨g, hg, he, hb, hr⟩
  exact ⟨g, hg, he, hb, h2, hr⟩
theorem vmul (gz gx gy : Nat) {a b c d : Int} {w : World} (Rz : RatRoom w gz) (Qx : RatV w gx a b) (Qy : RatV w gy c d) (h1 : (a * c).natAbs < 9223372036854775808) (h2 : (b * d).natAbs < 9223372036854775808) :
    Calls Try.prog 30 #[.pointer (some ⟨gz, 0, none⟩), .pointer (some ⟨gx, 0, none⟩), .pointer (some ⟨gy, 0, none⟩)] w (LeftV w gz (a * c) (b * d)) := by
  have lx := Qx.low
  have ly := Qy.low
  have p1 := abs_prod lx.2.1 ly.2.1
  have p2 := abs_prod lx.2.2 ly.2.2
  refine (rmul_any gz gx gy _ _ _ _ w Rz Qx.at_ Qy.at_ lx.1 ly.1 (by omega) (by omega)).mono ?_
  rintro e w' ⟨he, hg, hr⟩
  have hp := Int.mul_pos Qx.pos Qy.pos
  obtain ⟨e1, e2⟩ := low_low (a := a) (c := c) (a' := a * c) Qx.pos Qy.pos hp rfl
  exact ⟨he, hg, hp, by rw [← e1, ← e2]; exact hr⟩
theorem vadd (gz gx gy : Nat) {a b c d : Int} {w : World} (Rz : RatRoom w gz) (Qx : RatV w gx a b) (Qy : RatV w gy c d) (h1 : (a * d).natAbs < 4611686018427387904) (h2 : (c * b).natAbs < 4611686018427387904) (h3 : (b * d).natAbs < 9223372036854775808) :
    Calls Try.prog 29 #[.pointer (some ⟨gz, 0, none⟩), .pointer (some ⟨gx, 0, none⟩), .pointer (some ⟨gy, 0, none⟩)] w (LeftV w gz (a * d + c * b) (b * d)) := by
  have lx := Qx.low
  have ly := Qy.low
  have p1 := abs_prod lx.2.1 ly.2.2
  have p2 := abs_prod ly.2.1 lx.2.2
  have p3 := abs_prod lx.2.2 ly.2.2
  refine (radd_any gz gx gy _ _ _ _ w Rz Qx.at_ Qy.at_ lx.1 ly.1 (by omega) (by omega) (by omega)).mono ?_
  rintro e w' ⟨he, hg, hr⟩
  obtain ⟨e1, e2⟩ := sum_low (a := a) (c := c) Qx.pos Qy.pos lx.1 ly.1 (low_cross a b) (low_cross c d)
  exact ⟨he, hg, Int.mul_pos Qx.pos Qy.pos, by rw [← e1, ← e2]; exact hr⟩
theorem neg_cross (c d : Int) : lN (-c) d * d = -c * lD (-c) d := low_cross (-c) d
theorem low_neg {c d : Int} (hd : 0 < d) : lN (-lN c d) (lD c d) = lN (-c) d ∧ lD (-lN c d) (lD c d) = lD (-c) d := low_eq (lD_pos hd) hd (by
  have := low_cross c d
  rw [Int.neg_mul, this, Int.neg_mul])
theorem vsub (gz gx gy : Nat) {a b c d : Int} {w : World} (Rz : RatRoom w gz) (Qx : RatV w gx a b) (Qy : RatV w gy c d) (h1 : (a * d).natAbs < 4611686018427387904) (h2 : (c * b).natAbs < 4611686018427387904) (h3 : (b * d).natAbs < 9223372036854775808) :
    Calls Try.prog 31 #[.pointer (some ⟨gz, 0, none⟩), .pointer (some ⟨gx, 0, none⟩), .pointer (some ⟨gy, 0, none⟩)] w (LeftV w gz (a * d - c * b) (b * d)) := by
  have lx := Qx.low
  have ly := Qy.low
  have p1 := abs_prod lx.2.1 ly.2.2
  have p2 := abs_prod ly.2.1 lx.2.2
  have p3 := abs_prod lx.2.2 ly.2.2
  refine (rsub_wide gz gx gy _ _ _ _ w Rz Qx.at_ Qy.at_ lx.1 ly.1 (by omega) (by omega) (by omega)).mono ?_
  rintro e w' ⟨he, hg, hr⟩
  obtain ⟨n1, n2⟩ := low_neg (c := c) Qy.pos
  rw [n1, n2] at hr
  obtain ⟨e1, e2⟩ := sum_low (a := a) (c := -c) Qx.pos Qy.pos lx.1 (lD_pos (n := -c) Qy.pos) (low_cross a b) (neg_cross c d)
  rw [e1, e2, Int.neg_mul, ← Int.sub_eq_add_neg] at hr
  exact ⟨he, hg, Int.mul_pos Qx.pos Qy.pos, hr⟩
theorem cmp_low {a b : Int} (hb : 0 < b) : cmpI (lN a b) 0 = cmpI a 0 := by
  have h1 := lN_mul a b
  have h2 := gF_pos (n := a) hb
  unfold cmpI
  rcases Int.lt_trichotomy (lN a b) 0 with c | c | c
  · have := Int.mul_neg_of_neg_of_pos c h2
    rw [if_pos c, if_pos (by omega)]
  · rw [c, Int.zero_mul] at h1
    rw [c, ← h1]
  · have := Int.mul_pos c h2
    rw [if_neg (by omega), if_pos c, if_neg (by omega), if_pos (by omega)]
theorem cmp_cross (a b : Int) : cmpI (a - b) 0 = cmpI a b := by
  unfold cmpI
  (repeat' split) <;> omega
theorem vcmp (gx gy : Nat) {a b c d : Int} {w : World} (Qx : RatV w gx a b) (Qy : RatV w gy c d) (h1 : (a * d).natAbs < 4611686018427387904) (h2 : (c * b).natAbs < 4611686018427387904) (h3 : (b * d).natAbs < 9223372036854775808) :
    Calls Try.prog 16 #[.pointer (some ⟨gx, 0, none⟩), .pointer (some ⟨gy, 0, none⟩)] w fun e w' => e = .returned (.int .i64 (cmpI (a * d) (c * b))) ∧ Below w.heap.size w w' := by
  have lx := Qx.low
  have ly := Qy.low
  have p1 := abs_prod lx.2.1 ly.2.2
  have p2 := abs_prod ly.2.1 lx.2.2
  have p3 := abs_prod lx.2.2 ly.2.2
  refine (rcmp_wide gx gy _ _ _ _ w Qx.at_ Qy.at_ lx.1 ly.1 (by omega) (by omega) (by omega)).mono ?_
  rintro e w' ⟨he, hb⟩
  obtain ⟨n1, n2⟩ := low_neg (c := c) Qy.pos
  rw [n1, n2] at he
  obtain ⟨e1, e2⟩ := sum_low (a := a) (c := -c) Qx.pos Qy.pos lx.1 (lD_pos (n := -c) Qy.pos) (low_cross a b) (neg_cross c d)
  rw [e1, cmp_low (Int.mul_pos Qx.pos Qy.pos), Int.neg_mul, ← Int.sub_eq_add_neg, cmp_cross] at he
  exact ⟨he, hb⟩
theorem vsign (gx : Nat) {a b : Int} {w : World} (Qx : RatV w gx a b) : Calls Try.prog 26 #[.pointer (some ⟨gx, 0, none⟩)] w fun e w' => e = .returned (.int .i64 (cmpI a 0)) ∧ w = w' := by
  have h := rsign_any gx _ _ w Qx.at_
  rwa [cmp_low Qx.pos] at h

set_option maxRecDepth 100000 in
set_option maxHeartbeats 1000000 in
theorem vset (gz gx : Nat) {a b : Int} {w : World} (Rz : RatRoom w gz) (Qx : RatV w gx a b) (h1 : a.natAbs < 9223372036854775808) (h2 : b.natAbs < 9223372036854775808) :
    Calls Try.prog 27 #[.pointer (some ⟨gz, 0, none⟩), .pointer (some ⟨gx, 0, none⟩)] w (LeftV w gz a b) := by
  have lx := Qx.low
  have QA := Qx.at_
  have hpos := Qx.pos
  have HZ : Hid (∀ W, RatAt W gz (lN (lN a b) (lD a b)) (lD (lN a b) (lD a b)) → RatV W gz a b) := Lib.hid (fun W h => by
    obtain ⟨e1, e2⟩ := low_eq lx.1 hpos (low_cross a b)
    rw [e1, e2] at h
    exact ⟨hpos, h⟩)
  unfold LeftV
  clear Qx
  generalize lN a b = x at *
  generalize lD a b = y at *
  have B := Below.refl w.heap.size w
  go_enter Try.func27, Try.ntmps27
  go_wp2_with fail
  with_reducible refine (num_any gx x y _ QA).mono ?_
  rintro e w1 ⟨ga, hga, rfl, b1, Ia⟩
  replace QA := QA.below b1
  replace Rz := Rz.below b1
  replace B := below_of B b1 B.size
  go_wp2_with fail
  with_reducible refine (denom_any gx x y _ QA lx.1).mono ?_
  rintro e w2 ⟨gb, hgb, rfl, b2, Ib⟩
  replace Ia := Ia.below b2
  replace Rz := Rz.below b2
  replace B := below_of B b2 B.size
  go_wp2_with fail
  with_reducible refine (setFrac_int gz ga gb x y _ Rz Ia Ib lx.1 (by omega) (by omega)).mono ?_
  rintro e wz ⟨rfl, gr, Iz⟩
  have HY := Lib.hid (HZ.out _ Iz)
  go_wp2
  go_ret
  exact ⟨rfl, grown_trans (grown_of_below B) gr, HY.out⟩

/-- Inv, of a number above 0. -/
theorem vinv (gz gx : Nat) {a b : Int} {w : World} (Rz : RatRoom w gz) (Qx : RatV w gx a b) (ha : 0 < a) (h1 : a.natAbs < 9223372036854775808) (h2 : b.natAbs < 9223372036854775808) :
    Calls Try.prog 41 #[.pointer (some ⟨gz, 0, none⟩), .pointer (some ⟨gx, 0, none⟩)] w (LeftV w gz b a) := by
  have lx := Qx.low
  have QA := Qx.at_
  have hpos := Qx.pos
  have hx0 : 0 < lN a b := by
    have k1 := lN_mul a b
    have k2 := gF_pos (n := a) hpos
    rcases Int.lt_or_le 0 (lN a b) with c | c
    · exact c
    · have := Int.mul_le_mul_of_nonneg_right c (show 0 ≤ gF a b by omega)
      omega
  have HZ : Hid (∀ W, RatAt W gz (lN (lD a b) (lN a b)) (lD (lD a b) (lN a b)) → RatV W gz b a) := Lib.hid (fun W h => by
    obtain ⟨e1, e2⟩ := low_eq (n := lD a b) (d := lN a b) (n' := b) (d' := a) hx0 ha (by rw [Int.mul_comm, ← low_cross a b, Int.mul_comm])
    rw [e1, e2] at h
    exact ⟨ha, h⟩)
  unfold LeftV
  clear Qx
  generalize lN a b = x at *
  generalize lD a b = y at *
  have B := Below.refl w.heap.size w
  go_enter Try.func41, Try.ntmps41
  go_wp2_with fail
  with_reducible refine (denom_any gx x y _ QA lx.1).mono ?_
  rintro e w1 ⟨gb, hgb, rfl, b1, Ib⟩
  replace QA := QA.below b1
  replace Rz := Rz.below b1
  replace B := below_of B b1 B.size
  go_wp2_with fail
  with_reducible refine (num_any gx x y _ QA).mono ?_
  rintro e w2 ⟨ga, hga, rfl, b2, Ia⟩
  replace Ib := Ib.below b2
  replace Rz := Rz.below b2
  replace B := below_of B b2 B.size
  go_wp2_with fail
  with_reducible refine (setFrac_int gz gb ga y x _ Rz Ib Ia hx0 (by omega) (by omega)).mono ?_
  rintro e wz ⟨rfl, gr, Iz⟩
  have HY := Lib.hid (HZ.out _ Iz)
  go_wp2
  go_ret
  exact ⟨rfl, grown_trans (grown_of_below B) gr, HY.out⟩

set_option maxHeartbeats 1000000 in
/-- Quo, by a number above 0. -/
theorem vquo (gz gx gy : Nat) {a b c d : Int} {w : World} (Rz : RatRoom w gz) (Qx : RatV w gx a b) (Qy : RatV w gy c d) (hc : 0 < c) (h1 : (a * d).natAbs < 9223372036854775808) (h2 : (b * c).natAbs < 9223372036854775808) (h3 : c.natAbs < 9223372036854775808) (h4 : d.natAbs < 9223372036854775808) :
    Calls Try.prog 28 #[.pointer (some ⟨gz, 0, none⟩), .pointer (some ⟨gx, 0, none⟩), .pointer (some ⟨gy, 0, none⟩)] w (LeftV w gz (a * d) (b * c)) := by
  obtain ⟨V, hV⟩ : ∃ V, w.alloc (.cells #[.bool false, .slice none 0 0, .bool false, .slice none 0 0] 47) = V := ⟨_, rfl⟩
  have AV : Below w.heap.size w V := hV ▸ (Below.refl _ _).alloc (Nat.le_refl _) _
  have Rr : RatRoom V w.heap.size := hV ▸ rat_new w
  go_enter Try.func28, Try.ntmps28
  go_wp2_with fail
  (try rw [hV])
  refine (vinv w.heap.size gy Rr (Qy.below AV) hc h3 h4).mono ?_
  rintro e w1 ⟨rfl, g1, q1⟩
  have b1 : Below w.heap.size w w1 := below_of_grown AV g1 (Nat.le_refl _)
  go_wp2_with fail
  refine (vmul gz gx w.heap.size (Rz.below b1) (Qx.below b1) q1 h1 h2).mono ?_
  rintro e w2 ⟨rfl, g2, q2⟩
  go_wp2
  go_ret
  exact ⟨rfl, grown_trans (grown_of_below b1) g2, q2⟩
end Go.Proofs.Ytemoleopabddnaa
