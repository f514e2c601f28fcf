/- FracField of package weirhousekeep: its walk where sums and products are made. -/
import Derived.Test.YtfopcipapphogaaFrLawField
namespace Go.Proofs.Ytfopcipapphogaa
open Go.RowKit

set_option maxRecDepth 100000 in
set_option maxHeartbeats 1000000 in
theorem field_6 (an ad bn bd cn cd : Int) (M m : Int) (hM : ∀ w, (Builtin.max_ #[3, 3, 3, 3, 3, 3] 3 #[.int .i64 an, .int .i64 bn, .int .i64 cn, .int .i64 ad, .int .i64 bd, .int .i64 cd]).run Try.prog w = .ok (.int .i64 M) w) (hm : ∀ w, (Builtin.min_ #[3, 3, 3] 3 #[.int .i64 an, .int .i64 bn, .int .i64 cn]).run Try.prog w = .ok (.int .i64 m) w) (h1 : M ≤ 60) (h2 : -60 ≤ m) (s t p q u v x y : Int) (ha : FOk an ad) (hb : FOk bn bd) (hc : FOk cn cd) (c1 : ∀ w, Calls Try.prog 31 #[.agg #[.int .i64 an, .int .i64 ad], .agg #[.int .i64 bn, .int .i64 bd]] w fun e w' => e = .returned (.tuple #[.agg #[.int .i64 s, .int .i64 t], .int .i64 0]) ∧ Below w.heap.size w w') (c2 : ∀ w, Calls Try.prog 31 #[.agg #[.int .i64 bn, .int .i64 bd], .agg #[.int .i64 an, .int .i64 ad]] w fun e w' => e = .returned (.tuple #[.agg #[.int .i64 s, .int .i64 t], .int .i64 0]) ∧ Below w.heap.size w w') (c3 : ∀ w, Calls Try.prog 32 #[.agg #[.int .i64 s, .int .i64 t], .agg #[.int .i64 cn, .int .i64 cd]] w fun e w' => e = .returned (.tuple #[.agg #[.int .i64 x, .int .i64 y], .int .i64 0]) ∧ Below w.heap.size w w') (c4 : ∀ w, Calls Try.prog 32 #[.agg #[.int .i64 an, .int .i64 ad], .agg #[.int .i64 cn, .int .i64 cd]] w fun e w' => e = .returned (.tuple #[.agg #[.int .i64 p, .int .i64 q], .int .i64 0]) ∧ Below w.heap.size w w') (c5 : ∀ w, Calls Try.prog 32 #[.agg #[.int .i64 bn, .int .i64 bd], .agg #[.int .i64 cn, .int .i64 cd]] w fun e w' => e = .returned (.tuple #[.agg #[.int .i64 u, .int .i64 v], .int .i64 0]) ∧ Below w.heap.size w w') (c6 : ∀ w, Calls Try.prog 31 #[.agg #[.int .i64 p, .int .i64 q], .agg #[.int .i64 u, .int .i64 v]] w fun e w' => e = .returned (.tuple #[.agg #[.int .i64 x, .int .i64 y], .int .i64 0]) ∧ Below w.heap.size w w') (c7 : ∀ w, Calls Try.prog 32 #[.agg #[.int .i64 cn, .int .i64 cd], .agg #[.int .i64 an, .int .i64 ad]] w fun e w' => e = .returned (.tuple #[.agg #[.int .i64 p, .int .i64 q], .int .i64 0]) ∧ Below w.heap.size w w') (w : World) :
    Calls Try.prog 8 #[.agg #[.int .i64 an, .int .i64 ad], .agg #[.int .i64 bn, .int .i64 bd], .agg #[.int .i64 cn, .int .i64 cd]] w fun e w' => e = .returned (.bool true) ∧ Below w.heap.size w w' := by
  go_enter Try.func8, Try.ntmps8
  have Pa := (((FAt.new w (an) (ad)).alloc (.cells #[.int .i64 (bn), .int .i64 (bd)] 50)).alloc (.cells #[.int .i64 (cn), .int .i64 (cd)] 50)).at_ (b' := w.heap.size) (by simp)
  have Pb := ((FAt.new (w.alloc (.cells #[.int .i64 (an), .int .i64 (ad)] 50)) (bn) (bd)).alloc (.cells #[.int .i64 (cn), .int .i64 (cd)] 50)).at_ (b' := w.heap.size + 1) (by simp)
  have Pc := (FAt.new ((w.alloc (.cells #[.int .i64 (an), .int .i64 (ad)] 50)).alloc (.cells #[.int .i64 (bn), .int .i64 (bd)] 50)) (cn) (cd)).at_ (b' := w.heap.size + 1 + 1) (by simp)
  have B := ((((Below.refl w.heap.size w).alloc (by first | omega | (simp; done) | (simp; omega)) (.cells #[.int .i64 (an), .int .i64 (ad)] 50)).alloc (by first | omega | (simp; done) | (simp; omega)) (.cells #[.int .i64 (bn), .int .i64 (bd)] 50)).alloc (by first | omega | (simp; done) | (simp; omega)) (.cells #[.int .i64 (cn), .int .i64 (cd)] 50))
  go_wp2_with fail
  refine (alive2 _).mono ?_
  rintro e w1 ⟨rfl, hb1⟩
  replace Pa := Pa.below hb1
  replace Pb := Pb.below hb1
  replace Pc := Pc.below hb1
  replace B := below_of B hb1 (by first | omega | (simp; done) | (simp; omega))
  have hs1 := B.size
  obtain ⟨pa, qa, ra, fa, ga⟩ := id Pa
  obtain ⟨pb, qb, rb, fb, gb⟩ := id Pb
  obtain ⟨pc, qc, rc, fc, gc⟩ := id Pc
  go_wp2_with fail
  refine (right_yes ha _).mono ?_
  rintro e w2 ⟨rfl, hb2⟩
  replace Pa := Pa.below hb2
  replace Pb := Pb.below hb2
  replace Pc := Pc.below hb2
  replace B := below_of B hb2 (by first | omega | (simp; done) | (simp; omega))
  have hs2 := B.size
  obtain ⟨pa, qa, ra, fa, ga⟩ := id Pa
  obtain ⟨pb, qb, rb, fb, gb⟩ := id Pb
  obtain ⟨pc, qc, rc, fc, gc⟩ := id Pc
  go_wp2_with fail
  refine (right_yes hb _).mono ?_
  rintro e w3 ⟨rfl, hb3⟩
  replace Pa := Pa.below hb3
  replace Pb := Pb.below hb3
  replace Pc := Pc.below hb3
  replace B := below_of B hb3 (by first | omega | (simp; done) | (simp; omega))
  have hs3 := B.size
  obtain ⟨pa, qa, ra, fa, ga⟩ := id Pa
  obtain ⟨pb, qb, rb, fb, gb⟩ := id Pb
  obtain ⟨pc, qc, rc, fc, gc⟩ := id Pc
  go_wp2_with fail
  refine (right_yes hc _).mono ?_
  rintro e w4 ⟨rfl, hb4⟩
  replace Pa := Pa.below hb4
  replace Pb := Pb.below hb4
  replace Pc := Pc.below hb4
  replace B := below_of B hb4 (by first | omega | (simp; done) | (simp; omega))
  have hs4 := B.size
  obtain ⟨pa, qa, ra, fa, ga⟩ := id Pa
  obtain ⟨pb, qb, rb, fb, gb⟩ := id Pb
  obtain ⟨pc, qc, rc, fc, gc⟩ := id Pc
  go_wp2_with fail
  refine (c1 _).mono ?_
  rintro e w5 ⟨rfl, hb5⟩
  replace Pa := Pa.below hb5
  replace Pb := Pb.below hb5
  replace Pc := Pc.below hb5
  replace B := below_of B hb5 (by first | omega | (simp; done) | (simp; omega))
  have hs5 := B.size
  obtain ⟨pa, qa, ra, fa, ga⟩ := id Pa
  obtain ⟨pb, qb, rb, fb, gb⟩ := id Pb
  obtain ⟨pc, qc, rc, fc, gc⟩ := id Pc
  have Pab := FAt.new w5 (s) (t)
  go_wp2_with fail
  refine (c2 _).mono ?_
  rintro e w6 ⟨rfl, hb6⟩
  replace Pa := (Pa.alloc (.cells #[.int .i64 (s), .int .i64 (t)] 50)).below hb6
  replace Pb := (Pb.alloc (.cells #[.int .i64 (s), .int .i64 (t)] 50)).below hb6
  replace Pc := (Pc.alloc (.cells #[.int .i64 (s), .int .i64 (t)] 50)).below hb6
  replace Pab := Pab.below hb6
  replace B := below_of (B.alloc (by first | omega | (simp; done) | (simp; omega)) (.cells #[.int .i64 (s), .int .i64 (t)] 50)) hb6 (by first | omega | (simp; done) | (simp; omega))
  have hs6 := B.size
  obtain ⟨pa, qa, ra, fa, ga⟩ := id Pa
  obtain ⟨pb, qb, rb, fb, gb⟩ := id Pb
  obtain ⟨pc, qc, rc, fc, gc⟩ := id Pc
  obtain ⟨pab, qab, rab, fab, gab⟩ := id Pab
  have Pba := FAt.new w6 (s) (t)
  go_wp2_with fail
  refine (c3 _).mono ?_
  rintro e w7 ⟨rfl, hb7⟩
  replace Pa := (Pa.alloc (.cells #[.int .i64 (s), .int .i64 (t)] 50)).below hb7
  replace Pb := (Pb.alloc (.cells #[.int .i64 (s), .int .i64 (t)] 50)).below hb7
  replace Pc := (Pc.alloc (.cells #[.int .i64 (s), .int .i64 (t)] 50)).below hb7
  replace Pab := (Pab.alloc (.cells #[.int .i64 (s), .int .i64 (t)] 50)).below hb7
  replace Pba := Pba.below hb7
  replace B := below_of (B.alloc (by first | omega | (simp; done) | (simp; omega)) (.cells #[.int .i64 (s), .int .i64 (t)] 50)) hb7 (by first | omega | (simp; done) | (simp; omega))
  have hs7 := B.size
  obtain ⟨pa, qa, ra, fa, ga⟩ := id Pa
  obtain ⟨pb, qb, rb, fb, gb⟩ := id Pb
  obtain ⟨pc, qc, rc, fc, gc⟩ := id Pc
  obtain ⟨pab, qab, rab, fab, gab⟩ := id Pab
  obtain ⟨pba, qba, rba, fba, gba⟩ := id Pba
  have Px := FAt.new w7 (x) (y)
  go_wp2_with fail
  refine (c4 _).mono ?_
  rintro e w8 ⟨rfl, hb8⟩
  replace Pa := (Pa.alloc (.cells #[.int .i64 (x), .int .i64 (y)] 50)).below hb8
  replace Pb := (Pb.alloc (.cells #[.int .i64 (x), .int .i64 (y)] 50)).below hb8
  replace Pc := (Pc.alloc (.cells #[.int .i64 (x), .int .i64 (y)] 50)).below hb8
  replace Pab := (Pab.alloc (.cells #[.int .i64 (x), .int .i64 (y)] 50)).below hb8
  replace Pba := (Pba.alloc (.cells #[.int .i64 (x), .int .i64 (y)] 50)).below hb8
  replace Px := Px.below hb8
  replace B := below_of (B.alloc (by first | omega | (simp; done) | (simp; omega)) (.cells #[.int .i64 (x), .int .i64 (y)] 50)) hb8 (by first | omega | (simp; done) | (simp; omega))
  have hs8 := B.size
  obtain ⟨pa, qa, ra, fa, ga⟩ := id Pa
  obtain ⟨pb, qb, rb, fb, gb⟩ := id Pb
  obtain ⟨pc, qc, rc, fc, gc⟩ := id Pc
  obtain ⟨pab, qab, rab, fab, gab⟩ := id Pab
  obtain ⟨pba, qba, rba, fba, gba⟩ := id Pba
  obtain ⟨px, qx, rx, fx, gx⟩ := id Px
  have Pp := FAt.new w8 (p) (q)
  go_wp2_with fail
  refine (c5 _).mono ?_
  rintro e w9 ⟨rfl, hb9⟩
  replace Pa := (Pa.alloc (.cells #[.int .i64 (p), .int .i64 (q)] 50)).below hb9
  replace Pb := (Pb.alloc (.cells #[.int .i64 (p), .int .i64 (q)] 50)).below hb9
  replace Pc := (Pc.alloc (.cells #[.int .i64 (p), .int .i64 (q)] 50)).below hb9
  replace Pab := (Pab.alloc (.cells #[.int .i64 (p), .int .i64 (q)] 50)).below hb9
  replace Pba := (Pba.alloc (.cells #[.int .i64 (p), .int .i64 (q)] 50)).below hb9
  replace Px := (Px.alloc (.cells #[.int .i64 (p), .int .i64 (q)] 50)).below hb9
  replace Pp := Pp.below hb9
  replace B := below_of (B.alloc (by first | omega | (simp; done) | (simp; omega)) (.cells #[.int .i64 (p), .int .i64 (q)] 50)) hb9 (by first | omega | (simp; done) | (simp; omega))
  have hs9 := B.size
  obtain ⟨pa, qa, ra, fa, ga⟩ := id Pa
  obtain ⟨pb, qb, rb, fb, gb⟩ := id Pb
  obtain ⟨pc, qc, rc, fc, gc⟩ := id Pc
  obtain ⟨pab, qab, rab, fab, gab⟩ := id Pab
  obtain ⟨pba, qba, rba, fba, gba⟩ := id Pba
  obtain ⟨px, qx, rx, fx, gx⟩ := id Px
  obtain ⟨pp, qp, rp, fp, gp⟩ := id Pp
  have Pq := FAt.new w9 (u) (v)
  go_wp2_with fail
  refine (c6 _).mono ?_
  rintro e w10 ⟨rfl, hb10⟩
  replace Pa := (Pa.alloc (.cells #[.int .i64 (u), .int .i64 (v)] 50)).below hb10
  replace Pb := (Pb.alloc (.cells #[.int .i64 (u), .int .i64 (v)] 50)).below hb10
  replace Pc := (Pc.alloc (.cells #[.int .i64 (u), .int .i64 (v)] 50)).below hb10
  replace Pab := (Pab.alloc (.cells #[.int .i64 (u), .int .i64 (v)] 50)).below hb10
  replace Pba := (Pba.alloc (.cells #[.int .i64 (u), .int .i64 (v)] 50)).below hb10
  replace Px := (Px.alloc (.cells #[.int .i64 (u), .int .i64 (v)] 50)).below hb10
  replace Pp := (Pp.alloc (.cells #[.int .i64 (u), .int .i64 (v)] 50)).below hb10
  replace Pq := Pq.below hb10
  replace B := below_of (B.alloc (by first | omega | (simp; done) | (simp; omega)) (.cells #[.int .i64 (u), .int .i64 (v)] 50)) hb10 (by first | omega | (simp; done) | (simp; omega))
  have hs10 := B.size
  obtain ⟨pa, qa, ra, fa, ga⟩ := id Pa
  obtain ⟨pb, qb, rb, fb, gb⟩ := id Pb
  obtain ⟨pc, qc, rc, fc, gc⟩ := id Pc
  obtain ⟨pab, qab, rab, fab, gab⟩ := id Pab
  obtain ⟨pba, qba, rba, fba, gba⟩ := id Pba
  obtain ⟨px, qx, rx, fx, gx⟩ := id Px
  obtain ⟨pp, qp, rp, fp, gp⟩ := id Pp
  obtain ⟨pq, qq, rq, fq, gq⟩ := id Pq
  have Py := FAt.new w10 (x) (y)
  go_wp2_with fail
  refine (c7 _).mono ?_
  rintro e w11 ⟨rfl, hb11⟩
  replace Pa := (Pa.alloc (.cells #[.int .i64 (x), .int .i64 (y)] 50)).below hb11
  replace Pb := (Pb.alloc (.cells #[.int .i64 (x), .int .i64 (y)] 50)).below hb11
  replace Pc := (Pc.alloc (.cells #[.int .i64 (x), .int .i64 (y)] 50)).below hb11
  replace Pab := (Pab.alloc (.cells #[.int .i64 (x), .int .i64 (y)] 50)).below hb11
  replace Pba := (Pba.alloc (.cells #[.int .i64 (x), .int .i64 (y)] 50)).below hb11
  replace Px := (Px.alloc (.cells #[.int .i64 (x), .int .i64 (y)] 50)).below hb11
  replace Pp := (Pp.alloc (.cells #[.int .i64 (x), .int .i64 (y)] 50)).below hb11
  replace Pq := (Pq.alloc (.cells #[.int .i64 (x), .int .i64 (y)] 50)).below hb11
  replace Py := Py.below hb11
  replace B := below_of (B.alloc (by first | omega | (simp; done) | (simp; omega)) (.cells #[.int .i64 (x), .int .i64 (y)] 50)) hb11 (by first | omega | (simp; done) | (simp; omega))
  have hs11 := B.size
  obtain ⟨pa, qa, ra, fa, ga⟩ := id Pa
  obtain ⟨pb, qb, rb, fb, gb⟩ := id Pb
  obtain ⟨pc, qc, rc, fc, gc⟩ := id Pc
  obtain ⟨pab, qab, rab, fab, gab⟩ := id Pab
  obtain ⟨pba, qba, rba, fba, gba⟩ := id Pba
  obtain ⟨px, qx, rx, fx, gx⟩ := id Px
  obtain ⟨pp, qp, rp, fp, gp⟩ := id Pp
  obtain ⟨pq, qq, rq, fq, gq⟩ := id Pq
  obtain ⟨py, qy, ry, fy, gy⟩ := id Py
  have Pr := FAt.new w11 (p) (q)
  go_wp2
  go_ret
  exact ⟨by simp, (B.alloc (by first | omega | (simp; done) | (simp; omega)) (.cells #[.int .i64 (p), .int .i64 (q)] 50))⟩

theorem field_all (an ad bn bd cn cd : Int) (w : World) :
    Calls Try.prog 8 #[.agg #[.int .i64 an, .int .i64 ad], .agg #[.int .i64 bn, .int .i64 bd], .agg #[.int .i64 cn, .int .i64 cd]] w fun e w' => e = .returned (.bool true) ∧ Below w.heap.size w w' := by
  obtain ⟨M, hM, hM2⟩ := field_max an bn cn ad bd cd
  obtain ⟨m, hm, hm2⟩ := field_min an bn cn
  rcases Int.lt_or_le 60 M with h1 | h1
  · exact field_1 an ad bn bd cn cd M m hM hm h1 w
  rcases Int.lt_or_le m (-60) with h2 | h2
  · exact field_2 an ad bn bd cn cd M m hM hm h1 h2 w
  by_cases ha : FOk an ad
  · by_cases hb : FOk bn bd
    · by_cases hc : FOk cn cd
      · obtain ⟨⟨⟨⟨⟨a1, b1⟩, e1⟩, a2⟩, b2⟩, e2⟩ := hM2.1 h1
        obtain ⟨a3, b3, e3⟩ := hm2.1 h2
        have sa : Sm 60 60 an ad := ⟨ha.d0, a2, a3, a1⟩
        have sb : Sm 60 60 bn bd := ⟨hb.d0, b2, b3, b1⟩
        have sc : Sm 60 60 cn cd := ⟨hc.d0, e2, e3, e1⟩
        have sab := (sa.add sb).low
        have sp := (sa.mul sc).low
        have sq := (sb.mul sc).low
        have k1 : lN (bn * ad + an * bd) (bd * ad) = lN (an * bd + bn * ad) (ad * bd) := by rw [Int.add_comm, Int.mul_comm bd]
        have k2 : lD (bn * ad + an * bd) (bd * ad) = lD (an * bd + bn * ad) (ad * bd) := by rw [Int.add_comm, Int.mul_comm bd]
        have k3 : lN (cn * an) (cd * ad) = lN (an * cn) (ad * cd) := by rw [Int.mul_comm cn, Int.mul_comm cd]
        have k4 : lD (cn * an) (cd * ad) = lD (an * cn) (ad * cd) := by rw [Int.mul_comm cn, Int.mul_comm cd]
        have ex := distrib (lowest_cross (an * bd + bn * ad) (ad * bd)) (lowest_cross (an * cn) (ad * cd)) (lowest_cross (bn * cn) (bd * cd)) sa.d0 sb.d0 sc.d0
        have k5 := low_eq (Int.mul_pos sab.d0 sc.d0) (Int.mul_pos sp.d0 sq.d0) ex
        refine field_6 an ad bn bd cn cd M m hM hm h1 h2 _ _ _ _ _ _ _ _ ha hb hc (addF_sm sa sb (by decide) (by decide) (by decide) (by decide) (by decide) (by decide)) ?_
          (mulF_sm sab sc (by decide) (by decide) (by decide) (by decide) (by decide) (by decide)) (mulF_sm sa sc (by decide) (by decide) (by decide) (by decide) (by decide) (by decide))
          (mulF_sm sb sc (by decide) (by decide) (by decide) (by decide) (by decide) (by decide)) ?_ ?_ w
        · have h := addF_sm sb sa (by decide) (by decide) (by decide) (by decide) (by decide) (by decide)
          rw [k1, k2] at h
          exact h
        · have h := addF_sm sp sq (by decide) (by decide) (by decide) (by decide) (by decide) (by decide)
          rw [← k5.1, ← k5.2] at h
          exact h
        · have h := mulF_sm sc sa (by decide) (by decide) (by decide) (by decide) (by decide) (by decide)
          rw [k3, k4] at h
          exact h
      · exact field_5 an ad bn bd cn cd M m hM hm h1 h2 ha hb hc w
    · exact field_4 an ad bn bd cn cd M m hM hm h1 h2 ha hb w
  · exact field_3 an ad bn bd cn cd M m hM hm h1 h2 ha w
end Go.Proofs.Ytfopcipapphogaa
