/- FracOrder of package weirhousekeep: its walk. -/
import Derived.Test.YtfopcipapphogaaFrAlive
namespace Go.Proofs.Ytfopcipapphogaa
open Go.RowKit

theorem cmpF_is {n d m e x : Int} (h1 : FOk n d) (h2 : FOk m e) (hx : cmpI (n * e) (m * d) = x) (w : World) :
    Calls Try.prog 30 #[.agg #[.int .i64 n, .int .i64 d], .agg #[.int .i64 m, .int .i64 e]] w fun r w' =>
      r = .returned (.tuple #[.int .i64 x, .int .i64 0]) ∧ Below w.heap.size w w' := hx ▸ cmpF_yes n d m e h1 h2 w
theorem cmpF_not {n d m e : Int} (h : ¬ (FOk n d ∧ FOk m e)) (w : World) :
    Calls Try.prog 30 #[.agg #[.int .i64 n, .int .i64 d], .agg #[.int .i64 m, .int .i64 e]] w fun r w' =>
      r = .returned (.tuple #[.int .i64 0, .int .i64 2]) ∧ Below w.heap.size w w' := by
  by_cases h1 : FOk n d
  · exact cmpF_no2 n d m e h1 (fun h2 => h ⟨h1, h2⟩) w
  · exact cmpF_no1 n d m e h1 w
theorem cmpF_some (n d m e : Int) (w : World) :
    Calls Try.prog 30 #[.agg #[.int .i64 n, .int .i64 d], .agg #[.int .i64 m, .int .i64 e]] w fun r w' =>
      ∃ x y : Int, r = .returned (.tuple #[.int .i64 x, .int .i64 y]) ∧ Below w.heap.size w w' := by
  by_cases h : FOk n d ∧ FOk m e
  · exact (cmpF_yes n d m e h.1 h.2 w).mono fun _ _ h => ⟨_, _, h⟩
  · exact (cmpF_not h w).mono fun _ _ h => ⟨_, _, h⟩

theorem cmpI_le {x y : Int} : cmpI x y ≤ 0 ↔ x ≤ y := by unfold cmpI; split <;> (try split) <;> omega
theorem cmpI_neg (x y : Int) : cmpI y x = - cmpI x y := by unfold cmpI; split <;> split <;> omega
theorem cmpI_add (x y k : Int) : cmpI (x + k) (y + k) = cmpI x y := by unfold cmpI; simp only [Int.add_lt_add_iff_right]
theorem cmpI_bound (x y : Int) : -1 ≤ cmpI x y ∧ cmpI x y ≤ 1 := by unfold cmpI; split <;> (try split) <;> omega
/-- The order of fractions goes on. -/
theorem order_trans {an ad bn bd cn cd : Int} (ha : 0 < ad) (hb : 0 < bd) (hc : 0 < cd) (h1 : cmpI (an * bd) (bn * ad) ≤ 0) (h2 : cmpI (bn * cd) (cn * bd) ≤ 0) : cmpI (an * cd) (cn * ad) ≤ 0 := by
  rw [cmpI_le] at *
  have k1 := Int.mul_le_mul_of_nonneg_right h1 (show 0 ≤ cd by omega)
  have k2 := Int.mul_le_mul_of_nonneg_right h2 (show 0 ≤ ad by omega)
  have e1 : an * bd * cd = an * cd * bd := Int.mul_right_comm _ _ _
  have e2 : bn * ad * cd = bn * cd * ad := Int.mul_right_comm _ _ _
  have e3 : cn * bd * ad = cn * ad * bd := Int.mul_right_comm _ _ _
  exact Int.le_of_mul_le_mul_right (by omega : an * cd * bd ≤ cn * ad * bd) hb
theorem med_left (an ad bn bd : Int) : cmpI (an * (ad + bd)) ((an + bn) * ad) = cmpI (an * bd) (bn * ad) := by
  rw [Int.mul_add, Int.add_mul, Int.add_comm (an * ad), Int.add_comm (an * ad), cmpI_add]
theorem med_right (an ad bn bd : Int) : cmpI ((an + bn) * bd) (bn * (ad + bd)) = cmpI (an * bd) (bn * ad) := by
  rw [Int.mul_add, Int.add_mul, cmpI_add]

set_option maxRecDepth 100000 in
set_option maxHeartbeats 1000000 in
theorem order_no1 (an ad bn bd cn cd : Int) (h : ¬ (FOk an ad ∧ FOk bn bd)) (w : World) :
    Calls Try.prog 7 #[.agg #[.int .i64 an, .int .i64 ad], .agg #[.int .i64 bn, .int .i64 bd], .agg #[.int .i64 cn, .int .i64 cd]] w fun e w' => e = .returned (.bool true) ∧ Below w.heap.size w w' := by
  go_enter Try.func7, Try.ntmps7
  have Pa := (((FAt.new w (an) (ad)).alloc (.cells #[.int .i64 (bn), .int .i64 (bd)] 50)).alloc (.cells #[.int .i64 (cn), .int .i64 (cd)] 50)).at_ (b' := w.heap.size) (by simp)
  have Pb := ((FAt.new (w.alloc (.cells #[.int .i64 (an), .int .i64 (ad)] 50)) (bn) (bd)).alloc (.cells #[.int .i64 (cn), .int .i64 (cd)] 50)).at_ (b' := w.heap.size + 1) (by simp)
  have Pc := (FAt.new ((w.alloc (.cells #[.int .i64 (an), .int .i64 (ad)] 50)).alloc (.cells #[.int .i64 (bn), .int .i64 (bd)] 50)) (cn) (cd)).at_ (b' := w.heap.size + 1 + 1) (by simp)
  have B := ((((Below.refl w.heap.size w).alloc (by first | omega | (simp; done) | (simp; omega)) (.cells #[.int .i64 (an), .int .i64 (ad)] 50)).alloc (by first | omega | (simp; done) | (simp; omega)) (.cells #[.int .i64 (bn), .int .i64 (bd)] 50)).alloc (by first | omega | (simp; done) | (simp; omega)) (.cells #[.int .i64 (cn), .int .i64 (cd)] 50))
  go_wp2_with fail
  refine (alive2 _).mono ?_
  rintro e w1 ⟨rfl, hb1⟩
  replace Pa := Pa.below hb1
  replace Pb := Pb.below hb1
  replace Pc := Pc.below hb1
  replace B := below_of B hb1 (by first | omega | (simp; done) | (simp; omega))
  have hs1 := B.size
  obtain ⟨pa, qa, ra, fa, ga⟩ := id Pa
  obtain ⟨pb, qb, rb, fb, gb⟩ := id Pb
  obtain ⟨pc, qc, rc, fc, gc⟩ := id Pc
  go_wp2_with fail
  refine (cmpF_not h _).mono ?_
  rintro e w2 ⟨rfl, hb2⟩
  replace Pa := Pa.below hb2
  replace Pb := Pb.below hb2
  replace Pc := Pc.below hb2
  replace B := below_of B hb2 (by first | omega | (simp; done) | (simp; omega))
  have hs2 := B.size
  obtain ⟨pa, qa, ra, fa, ga⟩ := id Pa
  obtain ⟨pb, qb, rb, fb, gb⟩ := id Pb
  obtain ⟨pc, qc, rc, fc, gc⟩ := id Pc
  go_wp2_with fail
  refine (cmpF_some bn bd cn cd _).mono ?_
  rintro e w3 ⟨x3, y3, rfl, hb3⟩
  replace Pa := Pa.below hb3
  replace Pb := Pb.below hb3
  replace Pc := Pc.below hb3
  replace B := below_of B hb3 (by first | omega | (simp; done) | (simp; omega))
  have hs3 := B.size
  obtain ⟨pa, qa, ra, fa, ga⟩ := id Pa
  obtain ⟨pb, qb, rb, fb, gb⟩ := id Pb
  obtain ⟨pc, qc, rc, fc, gc⟩ := id Pc
  go_wp2_with fail
  refine (cmpF_some an ad cn cd _).mono ?_
  rintro e w4 ⟨x4, y4, rfl, hb4⟩
  replace Pa := Pa.below hb4
  replace Pb := Pb.below hb4
  replace Pc := Pc.below hb4
  replace B := below_of B hb4 (by first | omega | (simp; done) | (simp; omega))
  have hs4 := B.size
  obtain ⟨pa, qa, ra, fa, ga⟩ := id Pa
  obtain ⟨pb, qb, rb, fb, gb⟩ := id Pb
  obtain ⟨pc, qc, rc, fc, gc⟩ := id Pc
  go_wp2_with fail
  refine (cmpF_some bn bd an ad _).mono ?_
  rintro e w5 ⟨x5, y5, rfl, hb5⟩
  replace Pa := Pa.below hb5
  replace Pb := Pb.below hb5
  replace Pc := Pc.below hb5
  replace B := below_of B hb5 (by first | omega | (simp; done) | (simp; omega))
  have hs5 := B.size
  obtain ⟨pa, qa, ra, fa, ga⟩ := id Pa
  obtain ⟨pb, qb, rb, fb, gb⟩ := id Pb
  obtain ⟨pc, qc, rc, fc, gc⟩ := id Pc
  go_wp2
  go_ret
  exact ⟨rfl, B⟩

set_option maxRecDepth 100000 in
set_option maxHeartbeats 1000000 in
theorem order_no2 (an ad bn bd cn cd : Int) (h1 : FOk an ad) (h2 : FOk bn bd) (h3 : ¬ FOk cn cd) (w : World) :
    Calls Try.prog 7 #[.agg #[.int .i64 an, .int .i64 ad], .agg #[.int .i64 bn, .int .i64 bd], .agg #[.int .i64 cn, .int .i64 cd]] w fun e w' => e = .returned (.bool true) ∧ Below w.heap.size w w' := by
  go_enter Try.func7, Try.ntmps7
  have Pa := (((FAt.new w (an) (ad)).alloc (.cells #[.int .i64 (bn), .int .i64 (bd)] 50)).alloc (.cells #[.int .i64 (cn), .int .i64 (cd)] 50)).at_ (b' := w.heap.size) (by simp)
  have Pb := ((FAt.new (w.alloc (.cells #[.int .i64 (an), .int .i64 (ad)] 50)) (bn) (bd)).alloc (.cells #[.int .i64 (cn), .int .i64 (cd)] 50)).at_ (b' := w.heap.size + 1) (by simp)
  have Pc := (FAt.new ((w.alloc (.cells #[.int .i64 (an), .int .i64 (ad)] 50)).alloc (.cells #[.int .i64 (bn), .int .i64 (bd)] 50)) (cn) (cd)).at_ (b' := w.heap.size + 1 + 1) (by simp)
  have B := ((((Below.refl w.heap.size w).alloc (by first | omega | (simp; done) | (simp; omega)) (.cells #[.int .i64 (an), .int .i64 (ad)] 50)).alloc (by first | omega | (simp; done) | (simp; omega)) (.cells #[.int .i64 (bn), .int .i64 (bd)] 50)).alloc (by first | omega | (simp; done) | (simp; omega)) (.cells #[.int .i64 (cn), .int .i64 (cd)] 50))
  go_wp2_with fail
  refine (alive2 _).mono ?_
  rintro e w1 ⟨rfl, hb1⟩
  replace Pa := Pa.below hb1
  replace Pb := Pb.below hb1
  replace Pc := Pc.below hb1
  replace B := below_of B hb1 (by first | omega | (simp; done) | (simp; omega))
  have hs1 := B.size
  obtain ⟨pa, qa, ra, fa, ga⟩ := id Pa
  obtain ⟨pb, qb, rb, fb, gb⟩ := id Pb
  obtain ⟨pc, qc, rc, fc, gc⟩ := id Pc
  go_wp2_with fail
  refine (cmpF_yes an ad bn bd h1 h2 _).mono ?_
  rintro e w2 ⟨rfl, hb2⟩
  replace Pa := Pa.below hb2
  replace Pb := Pb.below hb2
  replace Pc := Pc.below hb2
  replace B := below_of B hb2 (by first | omega | (simp; done) | (simp; omega))
  have hs2 := B.size
  obtain ⟨pa, qa, ra, fa, ga⟩ := id Pa
  obtain ⟨pb, qb, rb, fb, gb⟩ := id Pb
  obtain ⟨pc, qc, rc, fc, gc⟩ := id Pc
  go_wp2_with fail
  refine (cmpF_not (fun h => h3 h.2) _).mono ?_
  rintro e w3 ⟨rfl, hb3⟩
  replace Pa := Pa.below hb3
  replace Pb := Pb.below hb3
  replace Pc := Pc.below hb3
  replace B := below_of B hb3 (by first | omega | (simp; done) | (simp; omega))
  have hs3 := B.size
  obtain ⟨pa, qa, ra, fa, ga⟩ := id Pa
  obtain ⟨pb, qb, rb, fb, gb⟩ := id Pb
  obtain ⟨pc, qc, rc, fc, gc⟩ := id Pc
  go_wp2_with fail
  refine (cmpF_not (fun h => h3 h.2) _).mono ?_
  rintro e w4 ⟨rfl, hb4⟩
  replace Pa := Pa.below hb4
  replace Pb := Pb.below hb4
  replace Pc := Pc.below hb4
  replace B := below_of B hb4 (by first | omega | (simp; done) | (simp; omega))
  have hs4 := B.size
  obtain ⟨pa, qa, ra, fa, ga⟩ := id Pa
  obtain ⟨pb, qb, rb, fb, gb⟩ := id Pb
  obtain ⟨pc, qc, rc, fc, gc⟩ := id Pc
  go_wp2_with fail
  refine (cmpF_yes bn bd an ad h2 h1 _).mono ?_
  rintro e w5 ⟨rfl, hb5⟩
  replace Pa := Pa.below hb5
  replace Pb := Pb.below hb5
  replace Pc := Pc.below hb5
  replace B := below_of B hb5 (by first | omega | (simp; done) | (simp; omega))
  have hs5 := B.size
  obtain ⟨pa, qa, ra, fa, ga⟩ := id Pa
  obtain ⟨pb, qb, rb, fb, gb⟩ := id Pb
  obtain ⟨pc, qc, rc, fc, gc⟩ := id Pc
  go_wp2
  go_ret
  exact ⟨rfl, B⟩

set_option maxRecDepth 100000 in
set_option maxHeartbeats 1000000 in
theorem order_A_no (an ad bn bd cn cd : Int) (x y z : Int) (h1 : FOk an ad) (h2 : FOk bn bd) (h3 : FOk cn cd) (hx : cmpI (an * bd) (bn * ad) = x) (hy : cmpI (bn * cd) (cn * bd) = y) (hz : cmpI (an * cd) (cn * ad) = z) (hx0 : -1 ≤ x) (hx1 : x ≤ 1) (q1 : 0 < x) (hm : ¬ FOk (an + bn) (ad + bd)) (w : World) :
    Calls Try.prog 7 #[.agg #[.int .i64 an, .int .i64 ad], .agg #[.int .i64 bn, .int .i64 bd], .agg #[.int .i64 cn, .int .i64 cd]] w fun e w' => e = .returned (.bool true) ∧ Below w.heap.size w w' := by
  have hw : cmpI (bn * ad) (an * bd) = -x := by rw [cmpI_neg, hx]
  have c1 : cmpI (an * (ad + bd)) ((an + bn) * ad) = x := by rw [med_left, hx]
  have c2 : cmpI ((an + bn) * bd) (bn * (ad + bd)) = x := by rw [med_right, hx]
  obtain ⟨a0, a1, a2, a3⟩ := id h1
  obtain ⟨b0, b1, b2, b3⟩ := id h2
  go_enter Try.func7, Try.ntmps7
  have Pa := (((FAt.new w (an) (ad)).alloc (.cells #[.int .i64 (bn), .int .i64 (bd)] 50)).alloc (.cells #[.int .i64 (cn), .int .i64 (cd)] 50)).at_ (b' := w.heap.size) (by simp)
  have Pb := ((FAt.new (w.alloc (.cells #[.int .i64 (an), .int .i64 (ad)] 50)) (bn) (bd)).alloc (.cells #[.int .i64 (cn), .int .i64 (cd)] 50)).at_ (b' := w.heap.size + 1) (by simp)
  have Pc := (FAt.new ((w.alloc (.cells #[.int .i64 (an), .int .i64 (ad)] 50)).alloc (.cells #[.int .i64 (bn), .int .i64 (bd)] 50)) (cn) (cd)).at_ (b' := w.heap.size + 1 + 1) (by simp)
  have B := ((((Below.refl w.heap.size w).alloc (by first | omega | (simp; done) | (simp; omega)) (.cells #[.int .i64 (an), .int .i64 (ad)] 50)).alloc (by first | omega | (simp; done) | (simp; omega)) (.cells #[.int .i64 (bn), .int .i64 (bd)] 50)).alloc (by first | omega | (simp; done) | (simp; omega)) (.cells #[.int .i64 (cn), .int .i64 (cd)] 50))
  go_wp2_with fail
  refine (alive2 _).mono ?_
  rintro e w1 ⟨rfl, hb1⟩
  replace Pa := Pa.below hb1
  replace Pb := Pb.below hb1
  replace Pc := Pc.below hb1
  replace B := below_of B hb1 (by first | omega | (simp; done) | (simp; omega))
  have hs1 := B.size
  obtain ⟨pa, qa, ra, fa, ga⟩ := id Pa
  obtain ⟨pb, qb, rb, fb, gb⟩ := id Pb
  obtain ⟨pc, qc, rc, fc, gc⟩ := id Pc
  go_wp2_with fail
  refine (cmpF_is h1 h2 hx _).mono ?_
  rintro e w2 ⟨rfl, hb2⟩
  replace Pa := Pa.below hb2
  replace Pb := Pb.below hb2
  replace Pc := Pc.below hb2
  replace B := below_of B hb2 (by first | omega | (simp; done) | (simp; omega))
  have hs2 := B.size
  obtain ⟨pa, qa, ra, fa, ga⟩ := id Pa
  obtain ⟨pb, qb, rb, fb, gb⟩ := id Pb
  obtain ⟨pc, qc, rc, fc, gc⟩ := id Pc
  go_wp2_with fail
  refine (cmpF_is h2 h3 hy _).mono ?_
  rintro e w3 ⟨rfl, hb3⟩
  replace Pa := Pa.below hb3
  replace Pb := Pb.below hb3
  replace Pc := Pc.below hb3
  replace B := below_of B hb3 (by first | omega | (simp; done) | (simp; omega))
  have hs3 := B.size
  obtain ⟨pa, qa, ra, fa, ga⟩ := id Pa
  obtain ⟨pb, qb, rb, fb, gb⟩ := id Pb
  obtain ⟨pc, qc, rc, fc, gc⟩ := id Pc
  go_wp2_with fail
  refine (cmpF_is h1 h3 hz _).mono ?_
  rintro e w4 ⟨rfl, hb4⟩
  replace Pa := Pa.below hb4
  replace Pb := Pb.below hb4
  replace Pc := Pc.below hb4
  replace B := below_of B hb4 (by first | omega | (simp; done) | (simp; omega))
  have hs4 := B.size
  obtain ⟨pa, qa, ra, fa, ga⟩ := id Pa
  obtain ⟨pb, qb, rb, fb, gb⟩ := id Pb
  obtain ⟨pc, qc, rc, fc, gc⟩ := id Pc
  go_wp2_with fail
  refine (cmpF_is h2 h1 hw _).mono ?_
  rintro e w5 ⟨rfl, hb5⟩
  replace Pa := Pa.below hb5
  replace Pb := Pb.below hb5
  replace Pc := Pc.below hb5
  replace B := below_of B hb5 (by first | omega | (simp; done) | (simp; omega))
  have hs5 := B.size
  obtain ⟨pa, qa, ra, fa, ga⟩ := id Pa
  obtain ⟨pb, qb, rb, fb, gb⟩ := id Pb
  obtain ⟨pc, qc, rc, fc, gc⟩ := id Pc
  have Pm := FAt.new w5 (an + bn) (ad + bd)
  go_wp2_with fail
  refine (cmpF_not (fun h => hm h.2) _).mono ?_
  rintro e w6 ⟨rfl, hb6⟩
  replace Pa := (Pa.alloc (.cells #[.int .i64 (an + bn), .int .i64 (ad + bd)] 50)).below hb6
  replace Pb := (Pb.alloc (.cells #[.int .i64 (an + bn), .int .i64 (ad + bd)] 50)).below hb6
  replace Pc := (Pc.alloc (.cells #[.int .i64 (an + bn), .int .i64 (ad + bd)] 50)).below hb6
  replace Pm := Pm.below hb6
  replace B := below_of (B.alloc (by first | omega | (simp; done) | (simp; omega)) (.cells #[.int .i64 (an + bn), .int .i64 (ad + bd)] 50)) hb6 (by first | omega | (simp; done) | (simp; omega))
  have hs6 := B.size
  obtain ⟨pa, qa, ra, fa, ga⟩ := id Pa
  obtain ⟨pb, qb, rb, fb, gb⟩ := id Pb
  obtain ⟨pc, qc, rc, fc, gc⟩ := id Pc
  obtain ⟨pm, qm, rm, fm, gm⟩ := id Pm
  go_wp2_with fail
  refine (cmpF_not (fun h => hm h.1) _).mono ?_
  rintro e w7 ⟨rfl, hb7⟩
  replace Pa := Pa.below hb7
  replace Pb := Pb.below hb7
  replace Pc := Pc.below hb7
  replace Pm := Pm.below hb7
  replace B := below_of B hb7 (by first | omega | (simp; done) | (simp; omega))
  have hs7 := B.size
  obtain ⟨pa, qa, ra, fa, ga⟩ := id Pa
  obtain ⟨pb, qb, rb, fb, gb⟩ := id Pb
  obtain ⟨pc, qc, rc, fc, gc⟩ := id Pc
  obtain ⟨pm, qm, rm, fm, gm⟩ := id Pm
  go_wp2
  go_ret
  exact ⟨rfl, B⟩

set_option maxRecDepth 100000 in
set_option maxHeartbeats 1000000 in
theorem order_A_yes (an ad bn bd cn cd : Int) (x y z : Int) (h1 : FOk an ad) (h2 : FOk bn bd) (h3 : FOk cn cd) (hx : cmpI (an * bd) (bn * ad) = x) (hy : cmpI (bn * cd) (cn * bd) = y) (hz : cmpI (an * cd) (cn * ad) = z) (hx0 : -1 ≤ x) (hx1 : x ≤ 1) (q1 : 0 < x) (hm : FOk (an + bn) (ad + bd)) (w : World) :
    Calls Try.prog 7 #[.agg #[.int .i64 an, .int .i64 ad], .agg #[.int .i64 bn, .int .i64 bd], .agg #[.int .i64 cn, .int .i64 cd]] w fun e w' => e = .returned (.bool true) ∧ Below w.heap.size w w' := by
  have hw : cmpI (bn * ad) (an * bd) = -x := by rw [cmpI_neg, hx]
  have c1 : cmpI (an * (ad + bd)) ((an + bn) * ad) = x := by rw [med_left, hx]
  have c2 : cmpI ((an + bn) * bd) (bn * (ad + bd)) = x := by rw [med_right, hx]
  obtain ⟨a0, a1, a2, a3⟩ := id h1
  obtain ⟨b0, b1, b2, b3⟩ := id h2
  go_enter Try.func7, Try.ntmps7
  have Pa := (((FAt.new w (an) (ad)).alloc (.cells #[.int .i64 (bn), .int .i64 (bd)] 50)).alloc (.cells #[.int .i64 (cn), .int .i64 (cd)] 50)).at_ (b' := w.heap.size) (by simp)
  have Pb := ((FAt.new (w.alloc (.cells #[.int .i64 (an), .int .i64 (ad)] 50)) (bn) (bd)).alloc (.cells #[.int .i64 (cn), .int .i64 (cd)] 50)).at_ (b' := w.heap.size + 1) (by simp)
  have Pc := (FAt.new ((w.alloc (.cells #[.int .i64 (an), .int .i64 (ad)] 50)).alloc (.cells #[.int .i64 (bn), .int .i64 (bd)] 50)) (cn) (cd)).at_ (b' := w.heap.size + 1 + 1) (by simp)
  have B := ((((Below.refl w.heap.size w).alloc (by first | omega | (simp; done) | (simp; omega)) (.cells #[.int .i64 (an), .int .i64 (ad)] 50)).alloc (by first | omega | (simp; done) | (simp; omega)) (.cells #[.int .i64 (bn), .int .i64 (bd)] 50)).alloc (by first | omega | (simp; done) | (simp; omega)) (.cells #[.int .i64 (cn), .int .i64 (cd)] 50))
  go_wp2_with fail
  refine (alive2 _).mono ?_
  rintro e w1 ⟨rfl, hb1⟩
  replace Pa := Pa.below hb1
  replace Pb := Pb.below hb1
  replace Pc := Pc.below hb1
  replace B := below_of B hb1 (by first | omega | (simp; done) | (simp; omega))
  have hs1 := B.size
  obtain ⟨pa, qa, ra, fa, ga⟩ := id Pa
  obtain ⟨pb, qb, rb, fb, gb⟩ := id Pb
  obtain ⟨pc, qc, rc, fc, gc⟩ := id Pc
  go_wp2_with fail
  refine (cmpF_is h1 h2 hx _).mono ?_
  rintro e w2 ⟨rfl, hb2⟩
  replace Pa := Pa.below hb2
  replace Pb := Pb.below hb2
  replace Pc := Pc.below hb2
  replace B := below_of B hb2 (by first | omega | (simp; done) | (simp; omega))
  have hs2 := B.size
  obtain ⟨pa, qa, ra, fa, ga⟩ := id Pa
  obtain ⟨pb, qb, rb, fb, gb⟩ := id Pb
  obtain ⟨pc, qc, rc, fc, gc⟩ := id Pc
  go_wp2_with fail
  refine (cmpF_is h2 h3 hy _).mono ?_
  rintro e w3 ⟨rfl, hb3⟩
  replace Pa := Pa.below hb3
  replace Pb := Pb.below hb3
  replace Pc := Pc.below hb3
  replace B := below_of B hb3 (by first | omega | (simp; done) | (simp; omega))
  have hs3 := B.size
  obtain ⟨pa, qa, ra, fa, ga⟩ := id Pa
  obtain ⟨pb, qb, rb, fb, gb⟩ := id Pb
  obtain ⟨pc, qc, rc, fc, gc⟩ := id Pc
  go_wp2_with fail
  refine (cmpF_is h1 h3 hz _).mono ?_
  rintro e w4 ⟨rfl, hb4⟩
  replace Pa := Pa.below hb4
  replace Pb := Pb.below hb4
  replace Pc := Pc.below hb4
  replace B := below_of B hb4 (by first | omega | (simp; done) | (simp; omega))
  have hs4 := B.size
  obtain ⟨pa, qa, ra, fa, ga⟩ := id Pa
  obtain ⟨pb, qb, rb, fb, gb⟩ := id Pb
  obtain ⟨pc, qc, rc, fc, gc⟩ := id Pc
  go_wp2_with fail
  refine (cmpF_is h2 h1 hw _).mono ?_
  rintro e w5 ⟨rfl, hb5⟩
  replace Pa := Pa.below hb5
  replace Pb := Pb.below hb5
  replace Pc := Pc.below hb5
  replace B := below_of B hb5 (by first | omega | (simp; done) | (simp; omega))
  have hs5 := B.size
  obtain ⟨pa, qa, ra, fa, ga⟩ := id Pa
  obtain ⟨pb, qb, rb, fb, gb⟩ := id Pb
  obtain ⟨pc, qc, rc, fc, gc⟩ := id Pc
  have Pm := FAt.new w5 (an + bn) (ad + bd)
  go_wp2_with fail
  refine (cmpF_is h1 hm c1 _).mono ?_
  rintro e w6 ⟨rfl, hb6⟩
  replace Pa := (Pa.alloc (.cells #[.int .i64 (an + bn), .int .i64 (ad + bd)] 50)).below hb6
  replace Pb := (Pb.alloc (.cells #[.int .i64 (an + bn), .int .i64 (ad + bd)] 50)).below hb6
  replace Pc := (Pc.alloc (.cells #[.int .i64 (an + bn), .int .i64 (ad + bd)] 50)).below hb6
  replace Pm := Pm.below hb6
  replace B := below_of (B.alloc (by first | omega | (simp; done) | (simp; omega)) (.cells #[.int .i64 (an + bn), .int .i64 (ad + bd)] 50)) hb6 (by first | omega | (simp; done) | (simp; omega))
  have hs6 := B.size
  obtain ⟨pa, qa, ra, fa, ga⟩ := id Pa
  obtain ⟨pb, qb, rb, fb, gb⟩ := id Pb
  obtain ⟨pc, qc, rc, fc, gc⟩ := id Pc
  obtain ⟨pm, qm, rm, fm, gm⟩ := id Pm
  go_wp2_with fail
  refine (cmpF_is hm h2 c2 _).mono ?_
  rintro e w7 ⟨rfl, hb7⟩
  replace Pa := Pa.below hb7
  replace Pb := Pb.below hb7
  replace Pc := Pc.below hb7
  replace Pm := Pm.below hb7
  replace B := below_of B hb7 (by first | omega | (simp; done) | (simp; omega))
  have hs7 := B.size
  obtain ⟨pa, qa, ra, fa, ga⟩ := id Pa
  obtain ⟨pb, qb, rb, fb, gb⟩ := id Pb
  obtain ⟨pc, qc, rc, fc, gc⟩ := id Pc
  obtain ⟨pm, qm, rm, fm, gm⟩ := id Pm
  go_wp2
  go_ret
  exact ⟨rfl, B⟩

set_option maxRecDepth 100000 in
set_option maxHeartbeats 1000000 in
theorem order_B_no (an ad bn bd cn cd : Int) (x y z : Int) (h1 : FOk an ad) (h2 : FOk bn bd) (h3 : FOk cn cd) (hx : cmpI (an * bd) (bn * ad) = x) (hy : cmpI (bn * cd) (cn * bd) = y) (hz : cmpI (an * cd) (cn * ad) = z) (hx0 : -1 ≤ x) (hx1 : x ≤ 1) (q1 : x ≤ 0) (q2 : 0 < y) (hm : ¬ FOk (an + bn) (ad + bd)) (w : World) :
    Calls Try.prog 7 #[.agg #[.int .i64 an, .int .i64 ad], .agg #[.int .i64 bn, .int .i64 bd], .agg #[.int .i64 cn, .int .i64 cd]] w fun e w' => e = .returned (.bool true) ∧ Below w.heap.size w w' := by
  have hw : cmpI (bn * ad) (an * bd) = -x := by rw [cmpI_neg, hx]
  have c1 : cmpI (an * (ad + bd)) ((an + bn) * ad) = x := by rw [med_left, hx]
  have c2 : cmpI ((an + bn) * bd) (bn * (ad + bd)) = x := by rw [med_right, hx]
  obtain ⟨a0, a1, a2, a3⟩ := id h1
  obtain ⟨b0, b1, b2, b3⟩ := id h2
  go_enter Try.func7, Try.ntmps7
  have Pa := (((FAt.new w (an) (ad)).alloc (.cells #[.int .i64 (bn), .int .i64 (bd)] 50)).alloc (.cells #[.int .i64 (cn), .int .i64 (cd)] 50)).at_ (b' := w.heap.size) (by simp)
  have Pb := ((FAt.new (w.alloc (.cells #[.int .i64 (an), .int .i64 (ad)] 50)) (bn) (bd)).alloc (.cells #[.int .i64 (cn), .int .i64 (cd)] 50)).at_ (b' := w.heap.size + 1) (by simp)
  have Pc := (FAt.new ((w.alloc (.cells #[.int .i64 (an), .int .i64 (ad)] 50)).alloc (.cells #[.int .i64 (bn), .int .i64 (bd)] 50)) (cn) (cd)).at_ (b' := w.heap.size + 1 + 1) (by simp)
  have B := ((((Below.refl w.heap.size w).alloc (by first | omega | (simp; done) | (simp; omega)) (.cells #[.int .i64 (an), .int .i64 (ad)] 50)).alloc (by first | omega | (simp; done) | (simp; omega)) (.cells #[.int .i64 (bn), .int .i64 (bd)] 50)).alloc (by first | omega | (simp; done) | (simp; omega)) (.cells #[.int .i64 (cn), .int .i64 (cd)] 50))
  go_wp2_with fail
  refine (alive2 _).mono ?_
  rintro e w1 ⟨rfl, hb1⟩
  replace Pa := Pa.below hb1
  replace Pb := Pb.below hb1
  replace Pc := Pc.below hb1
  replace B := below_of B hb1 (by first | omega | (simp; done) | (simp; omega))
  have hs1 := B.size
  obtain ⟨pa, qa, ra, fa, ga⟩ := id Pa
  obtain ⟨pb, qb, rb, fb, gb⟩ := id Pb
  obtain ⟨pc, qc, rc, fc, gc⟩ := id Pc
  go_wp2_with fail
  refine (cmpF_is h1 h2 hx _).mono ?_
  rintro e w2 ⟨rfl, hb2⟩
  replace Pa := Pa.below hb2
  replace Pb := Pb.below hb2
  replace Pc := Pc.below hb2
  replace B := below_of B hb2 (by first | omega | (simp; done) | (simp; omega))
  have hs2 := B.size
  obtain ⟨pa, qa, ra, fa, ga⟩ := id Pa
  obtain ⟨pb, qb, rb, fb, gb⟩ := id Pb
  obtain ⟨pc, qc, rc, fc, gc⟩ := id Pc
  go_wp2_with fail
  refine (cmpF_is h2 h3 hy _).mono ?_
  rintro e w3 ⟨rfl, hb3⟩
  replace Pa := Pa.below hb3
  replace Pb := Pb.below hb3
  replace Pc := Pc.below hb3
  replace B := below_of B hb3 (by first | omega | (simp; done) | (simp; omega))
  have hs3 := B.size
  obtain ⟨pa, qa, ra, fa, ga⟩ := id Pa
  obtain ⟨pb, qb, rb, fb, gb⟩ := id Pb
  obtain ⟨pc, qc, rc, fc, gc⟩ := id Pc
  go_wp2_with fail
  refine (cmpF_is h1 h3 hz _).mono ?_
  rintro e w4 ⟨rfl, hb4⟩
  replace Pa := Pa.below hb4
  replace Pb := Pb.below hb4
  replace Pc := Pc.below hb4
  replace B := below_of B hb4 (by first | omega | (simp; done) | (simp; omega))
  have hs4 := B.size
  obtain ⟨pa, qa, ra, fa, ga⟩ := id Pa
  obtain ⟨pb, qb, rb, fb, gb⟩ := id Pb
  obtain ⟨pc, qc, rc, fc, gc⟩ := id Pc
  go_wp2_with fail
  refine (cmpF_is h2 h1 hw _).mono ?_
  rintro e w5 ⟨rfl, hb5⟩
  replace Pa := Pa.below hb5
  replace Pb := Pb.below hb5
  replace Pc := Pc.below hb5
  replace B := below_of B hb5 (by first | omega | (simp; done) | (simp; omega))
  have hs5 := B.size
  obtain ⟨pa, qa, ra, fa, ga⟩ := id Pa
  obtain ⟨pb, qb, rb, fb, gb⟩ := id Pb
  obtain ⟨pc, qc, rc, fc, gc⟩ := id Pc
  have Pm := FAt.new w5 (an + bn) (ad + bd)
  go_wp2_with fail
  refine (cmpF_not (fun h => hm h.2) _).mono ?_
  rintro e w6 ⟨rfl, hb6⟩
  replace Pa := (Pa.alloc (.cells #[.int .i64 (an + bn), .int .i64 (ad + bd)] 50)).below hb6
  replace Pb := (Pb.alloc (.cells #[.int .i64 (an + bn), .int .i64 (ad + bd)] 50)).below hb6
  replace Pc := (Pc.alloc (.cells #[.int .i64 (an + bn), .int .i64 (ad + bd)] 50)).below hb6
  replace Pm := Pm.below hb6
  replace B := below_of (B.alloc (by first | omega | (simp; done) | (simp; omega)) (.cells #[.int .i64 (an + bn), .int .i64 (ad + bd)] 50)) hb6 (by first | omega | (simp; done) | (simp; omega))
  have hs6 := B.size
  obtain ⟨pa, qa, ra, fa, ga⟩ := id Pa
  obtain ⟨pb, qb, rb, fb, gb⟩ := id Pb
  obtain ⟨pc, qc, rc, fc, gc⟩ := id Pc
  obtain ⟨pm, qm, rm, fm, gm⟩ := id Pm
  go_wp2_with fail
  refine (cmpF_not (fun h => hm h.1) _).mono ?_
  rintro e w7 ⟨rfl, hb7⟩
  replace Pa := Pa.below hb7
  replace Pb := Pb.below hb7
  replace Pc := Pc.below hb7
  replace Pm := Pm.below hb7
  replace B := below_of B hb7 (by first | omega | (simp; done) | (simp; omega))
  have hs7 := B.size
  obtain ⟨pa, qa, ra, fa, ga⟩ := id Pa
  obtain ⟨pb, qb, rb, fb, gb⟩ := id Pb
  obtain ⟨pc, qc, rc, fc, gc⟩ := id Pc
  obtain ⟨pm, qm, rm, fm, gm⟩ := id Pm
  go_wp2
  go_ret
  exact ⟨rfl, B⟩

set_option maxRecDepth 100000 in
set_option maxHeartbeats 1000000 in
theorem order_B_yes (an ad bn bd cn cd : Int) (x y z : Int) (h1 : FOk an ad) (h2 : FOk bn bd) (h3 : FOk cn cd) (hx : cmpI (an * bd) (bn * ad) = x) (hy : cmpI (bn * cd) (cn * bd) = y) (hz : cmpI (an * cd) (cn * ad) = z) (hx0 : -1 ≤ x) (hx1 : x ≤ 1) (q1 : x ≤ 0) (q2 : 0 < y) (hm : FOk (an + bn) (ad + bd)) (w : World) :
    Calls Try.prog 7 #[.agg #[.int .i64 an, .int .i64 ad], .agg #[.int .i64 bn, .int .i64 bd], .agg #[.int .i64 cn, .int .i64 cd]] w fun e w' => e = .returned (.bool true) ∧ Below w.heap.size w w' := by
  have hw : cmpI (bn * ad) (an * bd) = -x := by rw [cmpI_neg, hx]
  have c1 : cmpI (an * (ad + bd)) ((an + bn) * ad) = x := by rw [med_left, hx]
  have c2 : cmpI ((an + bn) * bd) (bn * (ad + bd)) = x := by rw [med_right, hx]
  obtain ⟨a0, a1, a2, a3⟩ := id h1
  obtain ⟨b0, b1, b2, b3⟩ := id h2
  go_enter Try.func7, Try.ntmps7
  have Pa := (((FAt.new w (an) (ad)).alloc (.cells #[.int .i64 (bn), .int .i64 (bd)] 50)).alloc (.cells #[.int .i64 (cn), .int .i64 (cd)] 50)).at_ (b' := w.heap.size) (by simp)
  have Pb := ((FAt.new (w.alloc (.cells #[.int .i64 (an), .int .i64 (ad)] 50)) (bn) (bd)).alloc (.cells #[.int .i64 (cn), .int .i64 (cd)] 50)).at_ (b' := w.heap.size + 1) (by simp)
  have Pc := (FAt.new ((w.alloc (.cells #[.int .i64 (an), .int .i64 (ad)] 50)).alloc (.cells #[.int .i64 (bn), .int .i64 (bd)] 50)) (cn) (cd)).at_ (b' := w.heap.size + 1 + 1) (by simp)
  have B := ((((Below.refl w.heap.size w).alloc (by first | omega | (simp; done) | (simp; omega)) (.cells #[.int .i64 (an), .int .i64 (ad)] 50)).alloc (by first | omega | (simp; done) | (simp; omega)) (.cells #[.int .i64 (bn), .int .i64 (bd)] 50)).alloc (by first | omega | (simp; done) | (simp; omega)) (.cells #[.int .i64 (cn), .int .i64 (cd)] 50))
  go_wp2_with fail
  refine (alive2 _).mono ?_
  rintro e w1 ⟨rfl, hb1⟩
  replace Pa := Pa.below hb1
  replace Pb := Pb.below hb1
  replace Pc := Pc.below hb1
  replace B := below_of B hb1 (by first | omega | (simp; done) | (simp; omega))
  have hs1 := B.size
  obtain ⟨pa, qa, ra, fa, ga⟩ := id Pa
  obtain ⟨pb, qb, rb, fb, gb⟩ := id Pb
  obtain ⟨pc, qc, rc, fc, gc⟩ := id Pc
  go_wp2_with fail
  refine (cmpF_is h1 h2 hx _).mono ?_
  rintro e w2 ⟨rfl, hb2⟩
  replace Pa := Pa.below hb2
  replace Pb := Pb.below hb2
  replace Pc := Pc.below hb2
  replace B := below_of B hb2 (by first | omega | (simp; done) | (simp; omega))
  have hs2 := B.size
  obtain ⟨pa, qa, ra, fa, ga⟩ := id Pa
  obtain ⟨pb, qb, rb, fb, gb⟩ := id Pb
  obtain ⟨pc, qc, rc, fc, gc⟩ := id Pc
  go_wp2_with fail
  refine (cmpF_is h2 h3 hy _).mono ?_
  rintro e w3 ⟨rfl, hb3⟩
  replace Pa := Pa.below hb3
  replace Pb := Pb.below hb3
  replace Pc := Pc.below hb3
  replace B := below_of B hb3 (by first | omega | (simp; done) | (simp; omega))
  have hs3 := B.size
  obtain ⟨pa, qa, ra, fa, ga⟩ := id Pa
  obtain ⟨pb, qb, rb, fb, gb⟩ := id Pb
  obtain ⟨pc, qc, rc, fc, gc⟩ := id Pc
  go_wp2_with fail
  refine (cmpF_is h1 h3 hz _).mono ?_
  rintro e w4 ⟨rfl, hb4⟩
  replace Pa := Pa.below hb4
  replace Pb := Pb.below hb4
  replace Pc := Pc.below hb4
  replace B := below_of B hb4 (by first | omega | (simp; done) | (simp; omega))
  have hs4 := B.size
  obtain ⟨pa, qa, ra, fa, ga⟩ := id Pa
  obtain ⟨pb, qb, rb, fb, gb⟩ := id Pb
  obtain ⟨pc, qc, rc, fc, gc⟩ := id Pc
  go_wp2_with fail
  refine (cmpF_is h2 h1 hw _).mono ?_
  rintro e w5 ⟨rfl, hb5⟩
  replace Pa := Pa.below hb5
  replace Pb := Pb.below hb5
  replace Pc := Pc.below hb5
  replace B := below_of B hb5 (by first | omega | (simp; done) | (simp; omega))
  have hs5 := B.size
  obtain ⟨pa, qa, ra, fa, ga⟩ := id Pa
  obtain ⟨pb, qb, rb, fb, gb⟩ := id Pb
  obtain ⟨pc, qc, rc, fc, gc⟩ := id Pc
  have Pm := FAt.new w5 (an + bn) (ad + bd)
  go_wp2_with fail
  refine (cmpF_is h1 hm c1 _).mono ?_
  rintro e w6 ⟨rfl, hb6⟩
  replace Pa := (Pa.alloc (.cells #[.int .i64 (an + bn), .int .i64 (ad + bd)] 50)).below hb6
  replace Pb := (Pb.alloc (.cells #[.int .i64 (an + bn), .int .i64 (ad + bd)] 50)).below hb6
  replace Pc := (Pc.alloc (.cells #[.int .i64 (an + bn), .int .i64 (ad + bd)] 50)).below hb6
  replace Pm := Pm.below hb6
  replace B := below_of (B.alloc (by first | omega | (simp; done) | (simp; omega)) (.cells #[.int .i64 (an + bn), .int .i64 (ad + bd)] 50)) hb6 (by first | omega | (simp; done) | (simp; omega))
  have hs6 := B.size
  obtain ⟨pa, qa, ra, fa, ga⟩ := id Pa
  obtain ⟨pb, qb, rb, fb, gb⟩ := id Pb
  obtain ⟨pc, qc, rc, fc, gc⟩ := id Pc
  obtain ⟨pm, qm, rm, fm, gm⟩ := id Pm
  go_wp2_with fail
  refine (cmpF_is hm h2 c2 _).mono ?_
  rintro e w7 ⟨rfl, hb7⟩
  replace Pa := Pa.below hb7
  replace Pb := Pb.below hb7
  replace Pc := Pc.below hb7
  replace Pm := Pm.below hb7
  replace B := below_of B hb7 (by first | omega | (simp; done) | (simp; omega))
  have hs7 := B.size
  obtain ⟨pa, qa, ra, fa, ga⟩ := id Pa
  obtain ⟨pb, qb, rb, fb, gb⟩ := id Pb
  obtain ⟨pc, qc, rc, fc, gc⟩ := id Pc
  obtain ⟨pm, qm, rm, fm, gm⟩ := id Pm
  go_wp2
  go_ret
  exact ⟨rfl, B⟩

set_option maxRecDepth 100000 in
set_option maxHeartbeats 1000000 in
theorem order_C_no (an ad bn bd cn cd : Int) (x y z : Int) (h1 : FOk an ad) (h2 : FOk bn bd) (h3 : FOk cn cd) (hx : cmpI (an * bd) (bn * ad) = x) (hy : cmpI (bn * cd) (cn * bd) = y) (hz : cmpI (an * cd) (cn * ad) = z) (hx0 : -1 ≤ x) (hx1 : x ≤ 1) (q1 : x ≤ 0) (q2 : y ≤ 0) (q3 : z ≤ 0) (hm : ¬ FOk (an + bn) (ad + bd)) (w : World) :
    Calls Try.prog 7 #[.agg #[.int .i64 an, .int .i64 ad], .agg #[.int .i64 bn, .int .i64 bd], .agg #[.int .i64 cn, .int .i64 cd]] w fun e w' => e = .returned (.bool true) ∧ Below w.heap.size w w' := by
  have hw : cmpI (bn * ad) (an * bd) = -x := by rw [cmpI_neg, hx]
  have c1 : cmpI (an * (ad + bd)) ((an + bn) * ad) = x := by rw [med_left, hx]
  have c2 : cmpI ((an + bn) * bd) (bn * (ad + bd)) = x := by rw [med_right, hx]
  obtain ⟨a0, a1, a2, a3⟩ := id h1
  obtain ⟨b0, b1, b2, b3⟩ := id h2
  go_enter Try.func7, Try.ntmps7
  have Pa := (((FAt.new w (an) (ad)).alloc (.cells #[.int .i64 (bn), .int .i64 (bd)] 50)).alloc (.cells #[.int .i64 (cn), .int .i64 (cd)] 50)).at_ (b' := w.heap.size) (by simp)
  have Pb := ((FAt.new (w.alloc (.cells #[.int .i64 (an), .int .i64 (ad)] 50)) (bn) (bd)).alloc (.cells #[.int .i64 (cn), .int .i64 (cd)] 50)).at_ (b' := w.heap.size + 1) (by simp)
  have Pc := (FAt.new ((w.alloc (.cells #[.int .i64 (an), .int .i64 (ad)] 50)).alloc (.cells #[.int .i64 (bn), .int .i64 (bd)] 50)) (cn) (cd)).at_ (b' := w.heap.size + 1 + 1) (by simp)
  have B := ((((Below.refl w.heap.size w).alloc (by first | omega | (simp; done) | (simp; omega)) (.cells #[.int .i64 (an), .int .i64 (ad)] 50)).alloc (by first | omega | (simp; done) | (simp; omega)) (.cells #[.int .i64 (bn), .int .i64 (bd)] 50)).alloc (by first | omega | (simp; done) | (simp; omega)) (.cells #[.int .i64 (cn), .int .i64 (cd)] 50))
  go_wp2_with fail
  refine (alive2 _).mono ?_
  rintro e w1 ⟨rfl, hb1⟩
  replace Pa := Pa.below hb1
  replace Pb := Pb.below hb1
  replace Pc := Pc.below hb1
  replace B := below_of B hb1 (by first | omega | (simp; done) | (simp; omega))
  have hs1 := B.size
  obtain ⟨pa, qa, ra, fa, ga⟩ := id Pa
  obtain ⟨pb, qb, rb, fb, gb⟩ := id Pb
  obtain ⟨pc, qc, rc, fc, gc⟩ := id Pc
  go_wp2_with fail
  refine (cmpF_is h1 h2 hx _).mono ?_
  rintro e w2 ⟨rfl, hb2⟩
  replace Pa := Pa.below hb2
  replace Pb := Pb.below hb2
  replace Pc := Pc.below hb2
  replace B := below_of B hb2 (by first | omega | (simp; done) | (simp; omega))
  have hs2 := B.size
  obtain ⟨pa, qa, ra, fa, ga⟩ := id Pa
  obtain ⟨pb, qb, rb, fb, gb⟩ := id Pb
  obtain ⟨pc, qc, rc, fc, gc⟩ := id Pc
  go_wp2_with fail
  refine (cmpF_is h2 h3 hy _).mono ?_
  rintro e w3 ⟨rfl, hb3⟩
  replace Pa := Pa.below hb3
  replace Pb := Pb.below hb3
  replace Pc := Pc.below hb3
  replace B := below_of B hb3 (by first | omega | (simp; done) | (simp; omega))
  have hs3 := B.size
  obtain ⟨pa, qa, ra, fa, ga⟩ := id Pa
  obtain ⟨pb, qb, rb, fb, gb⟩ := id Pb
  obtain ⟨pc, qc, rc, fc, gc⟩ := id Pc
  go_wp2_with fail
  refine (cmpF_is h1 h3 hz _).mono ?_
  rintro e w4 ⟨rfl, hb4⟩
  replace Pa := Pa.below hb4
  replace Pb := Pb.below hb4
  replace Pc := Pc.below hb4
  replace B := below_of B hb4 (by first | omega | (simp; done) | (simp; omega))
  have hs4 := B.size
  obtain ⟨pa, qa, ra, fa, ga⟩ := id Pa
  obtain ⟨pb, qb, rb, fb, gb⟩ := id Pb
  obtain ⟨pc, qc, rc, fc, gc⟩ := id Pc
  go_wp2_with fail
  refine (cmpF_is h2 h1 hw _).mono ?_
  rintro e w5 ⟨rfl, hb5⟩
  replace Pa := Pa.below hb5
  replace Pb := Pb.below hb5
  replace Pc := Pc.below hb5
  replace B := below_of B hb5 (by first | omega | (simp; done) | (simp; omega))
  have hs5 := B.size
  obtain ⟨pa, qa, ra, fa, ga⟩ := id Pa
  obtain ⟨pb, qb, rb, fb, gb⟩ := id Pb
  obtain ⟨pc, qc, rc, fc, gc⟩ := id Pc
  have Pm := FAt.new w5 (an + bn) (ad + bd)
  go_wp2_with fail
  refine (cmpF_not (fun h => hm h.2) _).mono ?_
  rintro e w6 ⟨rfl, hb6⟩
  replace Pa := (Pa.alloc (.cells #[.int .i64 (an + bn), .int .i64 (ad + bd)] 50)).below hb6
  replace Pb := (Pb.alloc (.cells #[.int .i64 (an + bn), .int .i64 (ad + bd)] 50)).below hb6
  replace Pc := (Pc.alloc (.cells #[.int .i64 (an + bn), .int .i64 (ad + bd)] 50)).below hb6
  replace Pm := Pm.below hb6
  replace B := below_of (B.alloc (by first | omega | (simp; done) | (simp; omega)) (.cells #[.int .i64 (an + bn), .int .i64 (ad + bd)] 50)) hb6 (by first | omega | (simp; done) | (simp; omega))
  have hs6 := B.size
  obtain ⟨pa, qa, ra, fa, ga⟩ := id Pa
  obtain ⟨pb, qb, rb, fb, gb⟩ := id Pb
  obtain ⟨pc, qc, rc, fc, gc⟩ := id Pc
  obtain ⟨pm, qm, rm, fm, gm⟩ := id Pm
  go_wp2_with fail
  refine (cmpF_not (fun h => hm h.1) _).mono ?_
  rintro e w7 ⟨rfl, hb7⟩
  replace Pa := Pa.below hb7
  replace Pb := Pb.below hb7
  replace Pc := Pc.below hb7
  replace Pm := Pm.below hb7
  replace B := below_of B hb7 (by first | omega | (simp; done) | (simp; omega))
  have hs7 := B.size
  obtain ⟨pa, qa, ra, fa, ga⟩ := id Pa
  obtain ⟨pb, qb, rb, fb, gb⟩ := id Pb
  obtain ⟨pc, qc, rc, fc, gc⟩ := id Pc
  obtain ⟨pm, qm, rm, fm, gm⟩ := id Pm
  go_wp2
  go_ret
  exact ⟨rfl, B⟩

set_option maxRecDepth 100000 in
set_option maxHeartbeats 1000000 in
theorem order_C_yes (an ad bn bd cn cd : Int) (x y z : Int) (h1 : FOk an ad) (h2 : FOk bn bd) (h3 : FOk cn cd) (hx : cmpI (an * bd) (bn * ad) = x) (hy : cmpI (bn * cd) (cn * bd) = y) (hz : cmpI (an * cd) (cn * ad) = z) (hx0 : -1 ≤ x) (hx1 : x ≤ 1) (q1 : x ≤ 0) (q2 : y ≤ 0) (q3 : z ≤ 0) (hm : FOk (an + bn) (ad + bd)) (w : World) :
    Calls Try.prog 7 #[.agg #[.int .i64 an, .int .i64 ad], .agg #[.int .i64 bn, .int .i64 bd], .agg #[.int .i64 cn, .int .i64 cd]] w fun e w' => e = .returned (.bool true) ∧ Below w.heap.size w w' := by
  have hw : cmpI (bn * ad) (an * bd) = -x := by rw [cmpI_neg, hx]
  have c1 : cmpI (an * (ad + bd)) ((an + bn) * ad) = x := by rw [med_left, hx]
  have c2 : cmpI ((an + bn) * bd) (bn * (ad + bd)) = x := by rw [med_right, hx]
  obtain ⟨a0, a1, a2, a3⟩ := id h1
  obtain ⟨b0, b1, b2, b3⟩ := id h2
  go_enter Try.func7, Try.ntmps7
  have Pa := (((FAt.new w (an) (ad)).alloc (.cells #[.int .i64 (bn), .int .i64 (bd)] 50)).alloc (.cells #[.int .i64 (cn), .int .i64 (cd)] 50)).at_ (b' := w.heap.size) (by simp)
  have Pb := ((FAt.new (w.alloc (.cells #[.int .i64 (an), .int .i64 (ad)] 50)) (bn) (bd)).alloc (.cells #[.int .i64 (cn), .int .i64 (cd)] 50)).at_ (b' := w.heap.size + 1) (by simp)
  have Pc := (FAt.new ((w.alloc (.cells #[.int .i64 (an), .int .i64 (ad)] 50)).alloc (.cells #[.int .i64 (bn), .int .i64 (bd)] 50)) (cn) (cd)).at_ (b' := w.heap.size + 1 + 1) (by simp)
  have B := ((((Below.refl w.heap.size w).alloc (by first | omega | (simp; done) | (simp; omega)) (.cells #[.int .i64 (an), .int .i64 (ad)] 50)).alloc (by first | omega | (simp; done) | (simp; omega)) (.cells #[.int .i64 (bn), .int .i64 (bd)] 50)).alloc (by first | omega | (simp; done) | (simp; omega)) (.cells #[.int .i64 (cn), .int .i64 (cd)] 50))
  go_wp2_with fail
  refine (alive2 _).mono ?_
  rintro e w1 ⟨rfl, hb1⟩
  replace Pa := Pa.below hb1
  replace Pb := Pb.below hb1
  replace Pc := Pc.below hb1
  replace B := below_of B hb1 (by first | omega | (simp; done) | (simp; omega))
  have hs1 := B.size
  obtain ⟨pa, qa, ra, fa, ga⟩ := id Pa
  obtain ⟨pb, qb, rb, fb, gb⟩ := id Pb
  obtain ⟨pc, qc, rc, fc, gc⟩ := id Pc
  go_wp2_with fail
  refine (cmpF_is h1 h2 hx _).mono ?_
  rintro e w2 ⟨rfl, hb2⟩
  replace Pa := Pa.below hb2
  replace Pb := Pb.below hb2
  replace Pc := Pc.below hb2
  replace B := below_of B hb2 (by first | omega | (simp; done) | (simp; omega))
  have hs2 := B.size
  obtain ⟨pa, qa, ra, fa, ga⟩ := id Pa
  obtain ⟨pb, qb, rb, fb, gb⟩ := id Pb
  obtain ⟨pc, qc, rc, fc, gc⟩ := id Pc
  go_wp2_with fail
  refine (cmpF_is h2 h3 hy _).mono ?_
  rintro e w3 ⟨rfl, hb3⟩
  replace Pa := Pa.below hb3
  replace Pb := Pb.below hb3
  replace Pc := Pc.below hb3
  replace B := below_of B hb3 (by first | omega | (simp; done) | (simp; omega))
  have hs3 := B.size
  obtain ⟨pa, qa, ra, fa, ga⟩ := id Pa
  obtain ⟨pb, qb, rb, fb, gb⟩ := id Pb
  obtain ⟨pc, qc, rc, fc, gc⟩ := id Pc
  go_wp2_with fail
  refine (cmpF_is h1 h3 hz _).mono ?_
  rintro e w4 ⟨rfl, hb4⟩
  replace Pa := Pa.below hb4
  replace Pb := Pb.below hb4
  replace Pc := Pc.below hb4
  replace B := below_of B hb4 (by first | omega | (simp; done) | (simp; omega))
  have hs4 := B.size
  obtain ⟨pa, qa, ra, fa, ga⟩ := id Pa
  obtain ⟨pb, qb, rb, fb, gb⟩ := id Pb
  obtain ⟨pc, qc, rc, fc, gc⟩ := id Pc
  go_wp2_with fail
  refine (cmpF_is h2 h1 hw _).mono ?_
  rintro e w5 ⟨rfl, hb5⟩
  replace Pa := Pa.below hb5
  replace Pb := Pb.below hb5
  replace Pc := Pc.below hb5
  replace B := below_of B hb5 (by first | omega | (simp; done) | (simp; omega))
  have hs5 := B.size
  obtain ⟨pa, qa, ra, fa, ga⟩ := id Pa
  obtain ⟨pb, qb, rb, fb, gb⟩ := id Pb
  obtain ⟨pc, qc, rc, fc, gc⟩ := id Pc
  have Pm := FAt.new w5 (an + bn) (ad + bd)
  go_wp2_with fail
  refine (cmpF_is h1 hm c1 _).mono ?_
  rintro e w6 ⟨rfl, hb6⟩
  replace Pa := (Pa.alloc (.cells #[.int .i64 (an + bn), .int .i64 (ad + bd)] 50)).below hb6
  replace Pb := (Pb.alloc (.cells #[.int .i64 (an + bn), .int .i64 (ad + bd)] 50)).below hb6
  replace Pc := (Pc.alloc (.cells #[.int .i64 (an + bn), .int .i64 (ad + bd)] 50)).below hb6
  replace Pm := Pm.below hb6
  replace B := below_of (B.alloc (by first | omega | (simp; done) | (simp; omega)) (.cells #[.int .i64 (an + bn), .int .i64 (ad + bd)] 50)) hb6 (by first | omega | (simp; done) | (simp; omega))
  have hs6 := B.size
  obtain ⟨pa, qa, ra, fa, ga⟩ := id Pa
  obtain ⟨pb, qb, rb, fb, gb⟩ := id Pb
  obtain ⟨pc, qc, rc, fc, gc⟩ := id Pc
  obtain ⟨pm, qm, rm, fm, gm⟩ := id Pm
  go_wp2_with fail
  refine (cmpF_is hm h2 c2 _).mono ?_
  rintro e w7 ⟨rfl, hb7⟩
  replace Pa := Pa.below hb7
  replace Pb := Pb.below hb7
  replace Pc := Pc.below hb7
  replace Pm := Pm.below hb7
  replace B := below_of B hb7 (by first | omega | (simp; done) | (simp; omega))
  have hs7 := B.size
  obtain ⟨pa, qa, ra, fa, ga⟩ := id Pa
  obtain ⟨pb, qb, rb, fb, gb⟩ := id Pb
  obtain ⟨pc, qc, rc, fc, gc⟩ := id Pc
  obtain ⟨pm, qm, rm, fm, gm⟩ := id Pm
  go_wp2
  go_ret
  exact ⟨rfl, B⟩

theorem order_all (an ad bn bd cn cd : Int) (w : World) :
    Calls Try.prog 7 #[.agg #[.int .i64 an, .int .i64 ad], .agg #[.int .i64 bn, .int .i64 bd], .agg #[.int .i64 cn, .int .i64 cd]] w fun e w' => e = .returned (.bool true) ∧ Below w.heap.size w w' := by
  by_cases h : FOk an ad ∧ FOk bn bd
  · by_cases h3 : FOk cn cd
    · obtain ⟨h1, h2⟩ := h
      have hb := cmpI_bound (an * bd) (bn * ad)
      by_cases hm : FOk (an + bn) (ad + bd)
      · rcases Int.lt_or_le 0 (cmpI (an * bd) (bn * ad)) with q1 | q1
        · exact order_A_yes an ad bn bd cn cd _ _ _ h1 h2 h3 rfl rfl rfl hb.1 hb.2 q1 hm w
        · rcases Int.lt_or_le 0 (cmpI (bn * cd) (cn * bd)) with q2 | q2
          · exact order_B_yes an ad bn bd cn cd _ _ _ h1 h2 h3 rfl rfl rfl hb.1 hb.2 q1 q2 hm w
          · exact order_C_yes an ad bn bd cn cd _ _ _ h1 h2 h3 rfl rfl rfl hb.1 hb.2 q1 q2 (order_trans h1.d0 h2.d0 h3.d0 q1 q2) hm w
      · rcases Int.lt_or_le 0 (cmpI (an * bd) (bn * ad)) with q1 | q1
        · exact order_A_no an ad bn bd cn cd _ _ _ h1 h2 h3 rfl rfl rfl hb.1 hb.2 q1 hm w
        · rcases Int.lt_or_le 0 (cmpI (bn * cd) (cn * bd)) with q2 | q2
          · exact order_B_no an ad bn bd cn cd _ _ _ h1 h2 h3 rfl rfl rfl hb.1 hb.2 q1 q2 hm w
          · exact order_C_no an ad bn bd cn cd _ _ _ h1 h2 h3 rfl rfl rfl hb.1 hb.2 q1 q2 (order_trans h1.d0 h2.d0 h3.d0 q1 q2) hm w
    · exact order_no2 an ad bn bd cn cd h.1 h.2 h3 w
  · exact order_no1 an ad bn bd cn cd h w
end Go.Proofs.Ytfopcipapphogaa
