/- FracField of package weirhousekeep: its walk. -/
import Derived.Test.YtfopcipapphogaaFrAlive
namespace Go.Proofs.Ytfopcipapphogaa
open Go.RowKit

theorem mx2 (x y : Int) (B : Int) : (if y > x then y else x) ≤ B ↔ x ≤ B ∧ y ≤ B := by split <;> omega
theorem field_max (an bn cn ad bd cd : Int) : ∃ M : Int, (∀ w, (Builtin.max_ #[3, 3, 3, 3, 3, 3] 3 #[.int .i64 an, .int .i64 bn, .int .i64 cn, .int .i64 ad, .int .i64 bd, .int .i64 cd]).run Try.prog w = .ok (.int .i64 M) w) ∧
    (M ≤ 60 ↔ ((((an ≤ 60 ∧ bn ≤ 60) ∧ cn ≤ 60) ∧ ad ≤ 60) ∧ bd ≤ 60) ∧ cd ≤ 60) := by
  refine ⟨_, fun w => by simp [Builtin.max_, Builtin.max2]; rfl, ?_⟩
  simp only [← gt_iff_lt, mx2]
theorem field_min (an bn cn : Int) : ∃ m : Int, (∀ w, (Builtin.min_ #[3, 3, 3] 3 #[.int .i64 an, .int .i64 bn, .int .i64 cn]).run Try.prog w = .ok (.int .i64 m) w) ∧ (-60 ≤ m ↔ -60 ≤ an ∧ -60 ≤ bn ∧ -60 ≤ cn) := by
  refine ⟨_, fun w => by simp [Builtin.min_, Builtin.min2]; rfl, ?_⟩
  split <;> split <;> omega

set_option maxRecDepth 100000 in
set_option maxHeartbeats 1000000 in
theorem field_1 (an ad bn bd cn cd : Int) (M m : Int) (hM : ∀ w, (Builtin.max_ #[3, 3, 3, 3, 3, 3] 3 #[.int .i64 an, .int .i64 bn, .int .i64 cn, .int .i64 ad, .int .i64 bd, .int .i64 cd]).run Try.prog w = .ok (.int .i64 M) w) (_hm : ∀ w, (Builtin.min_ #[3, 3, 3] 3 #[.int .i64 an, .int .i64 bn, .int .i64 cn]).run Try.prog w = .ok (.int .i64 m) w) (h1 : 60 < M) (w : World) :
    Calls Try.prog 8 #[.agg #[.int .i64 an, .int .i64 ad], .agg #[.int .i64 bn, .int .i64 bd], .agg #[.int .i64 cn, .int .i64 cd]] w fun e w' => e = .returned (.bool true) ∧ Below w.heap.size w w' := by
  go_enter Try.func8, Try.ntmps8
  have Pa := (((FAt.new w (an) (ad)).alloc (.cells #[.int .i64 (bn), .int .i64 (bd)] 50)).alloc (.cells #[.int .i64 (cn), .int .i64 (cd)] 50)).at_ (b' := w.heap.size) (by simp)
  have Pb := ((FAt.new (w.alloc (.cells #[.int .i64 (an), .int .i64 (ad)] 50)) (bn) (bd)).alloc (.cells #[.int .i64 (cn), .int .i64 (cd)] 50)).at_ (b' := w.heap.size + 1) (by simp)
  have Pc := (FAt.new ((w.alloc (.cells #[.int .i64 (an), .int .i64 (ad)] 50)).alloc (.cells #[.int .i64 (bn), .int .i64 (bd)] 50)) (cn) (cd)).at_ (b' := w.heap.size + 1 + 1) (by simp)
  have B := ((((Below.refl w.heap.size w).alloc (by first | omega | (simp; done) | (simp; omega)) (.cells #[.int .i64 (an), .int .i64 (ad)] 50)).alloc (by first | omega | (simp; done) | (simp; omega)) (.cells #[.int .i64 (bn), .int .i64 (bd)] 50)).alloc (by first | omega | (simp; done) | (simp; omega)) (.cells #[.int .i64 (cn), .int .i64 (cd)] 50))
  go_wp2_with fail
  refine (alive2 _).mono ?_
  rintro e w1 ⟨rfl, hb1⟩
  replace Pa := Pa.below hb1
  replace Pb := Pb.below hb1
  replace Pc := Pc.below hb1
  replace B := below_of B hb1 (by first | omega | (simp; done) | (simp; omega))
  have hs1 := B.size
  obtain ⟨pa, qa, ra, fa, ga⟩ := id Pa
  obtain ⟨pb, qb, rb, fb, gb⟩ := id Pb
  obtain ⟨pc, qc, rc, fc, gc⟩ := id Pc
  go_wp2
  go_ret
  exact ⟨rfl, B⟩

set_option maxRecDepth 100000 in
set_option maxHeartbeats 1000000 in
theorem field_2 (an ad bn bd cn cd : Int) (M m : Int) (hM : ∀ w, (Builtin.max_ #[3, 3, 3, 3, 3, 3] 3 #[.int .i64 an, .int .i64 bn, .int .i64 cn, .int .i64 ad, .int .i64 bd, .int .i64 cd]).run Try.prog w = .ok (.int .i64 M) w) (hm : ∀ w, (Builtin.min_ #[3, 3, 3] 3 #[.int .i64 an, .int .i64 bn, .int .i64 cn]).run Try.prog w = .ok (.int .i64 m) w) (h1 : M ≤ 60) (h2 : m < -60) (w : World) :
    Calls Try.prog 8 #[.agg #[.int .i64 an, .int .i64 ad], .agg #[.int .i64 bn, .int .i64 bd], .agg #[.int .i64 cn, .int .i64 cd]] w fun e w' => e = .returned (.bool true) ∧ Below w.heap.size w w' := by
  go_enter Try.func8, Try.ntmps8
  have Pa := (((FAt.new w (an) (ad)).alloc (.cells #[.int .i64 (bn), .int .i64 (bd)] 50)).alloc (.cells #[.int .i64 (cn), .int .i64 (cd)] 50)).at_ (b' := w.heap.size) (by simp)
  have Pb := ((FAt.new (w.alloc (.cells #[.int .i64 (an), .int .i64 (ad)] 50)) (bn) (bd)).alloc (.cells #[.int .i64 (cn), .int .i64 (cd)] 50)).at_ (b' := w.heap.size + 1) (by simp)
  have Pc := (FAt.new ((w.alloc (.cells #[.int .i64 (an), .int .i64 (ad)] 50)).alloc (.cells #[.int .i64 (bn), .int .i64 (bd)] 50)) (cn) (cd)).at_ (b' := w.heap.size + 1 + 1) (by simp)
  have B := ((((Below.refl w.heap.size w).alloc (by first | omega | (simp; done) | (simp; omega)) (.cells #[.int .i64 (an), .int .i64 (ad)] 50)).alloc (by first | omega | (simp; done) | (simp; omega)) (.cells #[.int .i64 (bn), .int .i64 (bd)] 50)).alloc (by first | omega | (simp; done) | (simp; omega)) (.cells #[.int .i64 (cn), .int .i64 (cd)] 50))
  go_wp2_with fail
  refine (alive2 _).mono ?_
  rintro e w1 ⟨rfl, hb1⟩
  replace Pa := Pa.below hb1
  replace Pb := Pb.below hb1
  replace Pc := Pc.below hb1
  replace B := below_of B hb1 (by first | omega | (simp; done) | (simp; omega))
  have hs1 := B.size
  obtain ⟨pa, qa, ra, fa, ga⟩ := id Pa
  obtain ⟨pb, qb, rb, fb, gb⟩ := id Pb
  obtain ⟨pc, qc, rc, fc, gc⟩ := id Pc
  go_wp2
  go_ret
  exact ⟨rfl, B⟩

set_option maxRecDepth 100000 in
set_option maxHeartbeats 1000000 in
theorem field_3 (an ad bn bd cn cd : Int) (M m : Int) (hM : ∀ w, (Builtin.max_ #[3, 3, 3, 3, 3, 3] 3 #[.int .i64 an, .int .i64 bn, .int .i64 cn, .int .i64 ad, .int .i64 bd, .int .i64 cd]).run Try.prog w = .ok (.int .i64 M) w) (hm : ∀ w, (Builtin.min_ #[3, 3, 3] 3 #[.int .i64 an, .int .i64 bn, .int .i64 cn]).run Try.prog w = .ok (.int .i64 m) w) (h1 : M ≤ 60) (h2 : -60 ≤ m) (ha : ¬ FOk an ad) (w : World) :
    Calls Try.prog 8 #[.agg #[.int .i64 an, .int .i64 ad], .agg #[.int .i64 bn, .int .i64 bd], .agg #[.int .i64 cn, .int .i64 cd]] w fun e w' => e = .returned (.bool true) ∧ Below w.heap.size w w' := by
  go_enter Try.func8, Try.ntmps8
  have Pa := (((FAt.new w (an) (ad)).alloc (.cells #[.int .i64 (bn), .int .i64 (bd)] 50)).alloc (.cells #[.int .i64 (cn), .int .i64 (cd)] 50)).at_ (b' := w.heap.size) (by simp)
  have Pb := ((FAt.new (w.alloc (.cells #[.int .i64 (an), .int .i64 (ad)] 50)) (bn) (bd)).alloc (.cells #[.int .i64 (cn), .int .i64 (cd)] 50)).at_ (b' := w.heap.size + 1) (by simp)
  have Pc := (FAt.new ((w.alloc (.cells #[.int .i64 (an), .int .i64 (ad)] 50)).alloc (.cells #[.int .i64 (bn), .int .i64 (bd)] 50)) (cn) (cd)).at_ (b' := w.heap.size + 1 + 1) (by simp)
  have B := ((((Below.refl w.heap.size w).alloc (by first | omega | (simp; done) | (simp; omega)) (.cells #[.int .i64 (an), .int .i64 (ad)] 50)).alloc (by first | omega | (simp; done) | (simp; omega)) (.cells #[.int .i64 (bn), .int .i64 (bd)] 50)).alloc (by first | omega | (simp; done) | (simp; omega)) (.cells #[.int .i64 (cn), .int .i64 (cd)] 50))
  go_wp2_with fail
  refine (alive2 _).mono ?_
  rintro e w1 ⟨rfl, hb1⟩
  replace Pa := Pa.below hb1
  replace Pb := Pb.below hb1
  replace Pc := Pc.below hb1
  replace B := below_of B hb1 (by first | omega | (simp; done) | (simp; omega))
  have hs1 := B.size
  obtain ⟨pa, qa, ra, fa, ga⟩ := id Pa
  obtain ⟨pb, qb, rb, fb, gb⟩ := id Pb
  obtain ⟨pc, qc, rc, fc, gc⟩ := id Pc
  go_wp2_with fail
  refine (right_no ha _).mono ?_
  rintro e w2 ⟨rfl, hb2⟩
  replace Pa := Pa.below hb2
  replace Pb := Pb.below hb2
  replace Pc := Pc.below hb2
  replace B := below_of B hb2 (by first | omega | (simp; done) | (simp; omega))
  have hs2 := B.size
  obtain ⟨pa, qa, ra, fa, ga⟩ := id Pa
  obtain ⟨pb, qb, rb, fb, gb⟩ := id Pb
  obtain ⟨pc, qc, rc, fc, gc⟩ := id Pc
  go_wp2
  go_ret
  exact ⟨rfl, B⟩

set_option maxRecDepth 100000 in
set_option maxHeartbeats 1000000 in
theorem field_4 (an ad bn bd cn cd : Int) (M m : Int) (hM : ∀ w, (Builtin.max_ #[3, 3, 3, 3, 3, 3] 3 #[.int .i64 an, .int .i64 bn, .int .i64 cn, .int .i64 ad, .int .i64 bd, .int .i64 cd]).run Try.prog w = .ok (.int .i64 M) w) (hm : ∀ w, (Builtin.min_ #[3, 3, 3] 3 #[.int .i64 an, .int .i64 bn, .int .i64 cn]).run Try.prog w = .ok (.int .i64 m) w) (h1 : M ≤ 60) (h2 : -60 ≤ m) (ha : FOk an ad) (hb : ¬ FOk bn bd) (w : World) :
    Calls Try.prog 8 #[.agg #[.int .i64 an, .int .i64 ad], .agg #[.int .i64 bn, .int .i64 bd], .agg #[.int .i64 cn, .int .i64 cd]] w fun e w' => e = .returned (.bool true) ∧ Below w.heap.size w w' := by
  go_enter Try.func8, Try.ntmps8
  have Pa := (((FAt.new w (an) (ad)).alloc (.cells #[.int .i64 (bn), .int .i64 (bd)] 50)).alloc (.cells #[.int .i64 (cn), .int .i64 (cd)] 50)).at_ (b' := w.heap.size) (by simp)
  have Pb := ((FAt.new (w.alloc (.cells #[.int .i64 (an), .int .i64 (ad)] 50)) (bn) (bd)).alloc (.cells #[.int .i64 (cn), .int .i64 (cd)] 50)).at_ (b' := w.heap.size + 1) (by simp)
  have Pc := (FAt.new ((w.alloc (.cells #[.int .i64 (an), .int .i64 (ad)] 50)).alloc (.cells #[.int .i64 (bn), .int .i64 (bd)] 50)) (cn) (cd)).at_ (b' := w.heap.size + 1 + 1) (by simp)
  have B := ((((Below.refl w.heap.size w).alloc (by first | omega | (simp; done) | (simp; omega)) (.cells #[.int .i64 (an), .int .i64 (ad)] 50)).alloc (by first | omega | (simp; done) | (simp; omega)) (.cells #[.int .i64 (bn), .int .i64 (bd)] 50)).alloc (by first | omega | (simp; done) | (simp; omega)) (.cells #[.int .i64 (cn), .int .i64 (cd)] 50))
  go_wp2_with fail
  refine (alive2 _).mono ?_
  rintro e w1 ⟨rfl, hb1⟩
  replace Pa := Pa.below hb1
  replace Pb := Pb.below hb1
  replace Pc := Pc.below hb1
  replace B := below_of B hb1 (by first | omega | (simp; done) | (simp; omega))
  have hs1 := B.size
  obtain ⟨pa, qa, ra, fa, ga⟩ := id Pa
  obtain ⟨pb, qb, rb, fb, gb⟩ := id Pb
  obtain ⟨pc, qc, rc, fc, gc⟩ := id Pc
  go_wp2_with fail
  refine (right_yes ha _).mono ?_
  rintro e w2 ⟨rfl, hb2⟩
  replace Pa := Pa.below hb2
  replace Pb := Pb.below hb2
  replace Pc := Pc.below hb2
  replace B := below_of B hb2 (by first | omega | (simp; done) | (simp; omega))
  have hs2 := B.size
  obtain ⟨pa, qa, ra, fa, ga⟩ := id Pa
  obtain ⟨pb, qb, rb, fb, gb⟩ := id Pb
  obtain ⟨pc, qc, rc, fc, gc⟩ := id Pc
  go_wp2_with fail
  refine (right_no hb _).mono ?_
  rintro e w3 ⟨rfl, hb3⟩
  replace Pa := Pa.below hb3
  replace Pb := Pb.below hb3
  replace Pc := Pc.below hb3
  replace B := below_of B hb3 (by first | omega | (simp; done) | (simp; omega))
  have hs3 := B.size
  obtain ⟨pa, qa, ra, fa, ga⟩ := id Pa
  obtain ⟨pb, qb, rb, fb, gb⟩ := id Pb
  obtain ⟨pc, qc, rc, fc, gc⟩ := id Pc
  go_wp2
  go_ret
  exact ⟨rfl, B⟩

set_option maxRecDepth 100000 in
set_option maxHeartbeats 1000000 in
theorem field_5 (an ad bn bd cn cd : Int) (M m : Int) (hM : ∀ w, (Builtin.max_ #[3, 3, 3, 3, 3, 3] 3 #[.int .i64 an, .int .i64 bn, .int .i64 cn, .int .i64 ad, .int .i64 bd, .int .i64 cd]).run Try.prog w = .ok (.int .i64 M) w) (hm : ∀ w, (Builtin.min_ #[3, 3, 3] 3 #[.int .i64 an, .int .i64 bn, .int .i64 cn]).run Try.prog w = .ok (.int .i64 m) w) (h1 : M ≤ 60) (h2 : -60 ≤ m) (ha : FOk an ad) (hb : FOk bn bd) (hc : ¬ FOk cn cd) (w : World) :
    Calls Try.prog 8 #[.agg #[.int .i64 an, .int .i64 ad], .agg #[.int .i64 bn, .int .i64 bd], .agg #[.int .i64 cn, .int .i64 cd]] w fun e w' => e = .returned (.bool true) ∧ Below w.heap.size w w' := by
  go_enter Try.func8, Try.ntmps8
  have Pa := (((FAt.new w (an) (ad)).alloc (.cells #[.int .i64 (bn), .int .i64 (bd)] 50)).alloc (.cells #[.int .i64 (cn), .int .i64 (cd)] 50)).at_ (b' := w.heap.size) (by simp)
  have Pb := ((FAt.new (w.alloc (.cells #[.int .i64 (an), .int .i64 (ad)] 50)) (bn) (bd)).alloc (.cells #[.int .i64 (cn), .int .i64 (cd)] 50)).at_ (b' := w.heap.size + 1) (by simp)
  have Pc := (FAt.new ((w.alloc (.cells #[.int .i64 (an), .int .i64 (ad)] 50)).alloc (.cells #[.int .i64 (bn), .int .i64 (bd)] 50)) (cn) (cd)).at_ (b' := w.heap.size + 1 + 1) (by simp)
  have B := ((((Below.refl w.heap.size w).alloc (by first | omega | (simp; done) | (simp; omega)) (.cells #[.int .i64 (an), .int .i64 (ad)] 50)).alloc (by first | omega | (simp; done) | (simp; omega)) (.cells #[.int .i64 (bn), .int .i64 (bd)] 50)).alloc (by first | omega | (simp; done) | (simp; omega)) (.cells #[.int .i64 (cn), .int .i64 (cd)] 50))
  go_wp2_with fail
  refine (alive2 _).mono ?_
  rintro e w1 ⟨rfl, hb1⟩
  replace Pa := Pa.below hb1
  replace Pb := Pb.below hb1
  replace Pc := Pc.below hb1
  replace B := below_of B hb1 (by first | omega | (simp; done) | (simp; omega))
  have hs1 := B.size
  obtain ⟨pa, qa, ra, fa, ga⟩ := id Pa
  obtain ⟨pb, qb, rb, fb, gb⟩ := id Pb
  obtain ⟨pc, qc, rc, fc, gc⟩ := id Pc
  go_wp2_with fail
  refine (right_yes ha _).mono ?_
  rintro e w2 ⟨rfl, hb2⟩
  replace Pa := Pa.below hb2
  replace Pb := Pb.below hb2
  replace Pc := Pc.below hb2
  replace B := below_of B hb2 (by first | omega | (simp; done) | (simp; omega))
  have hs2 := B.size
  obtain ⟨pa, qa, ra, fa, ga⟩ := id Pa
  obtain ⟨pb, qb, rb, fb, gb⟩ := id Pb
  obtain ⟨pc, qc, rc, fc, gc⟩ := id Pc
  go_wp2_with fail
  refine (right_yes hb _).mono ?_
  rintro e w3 ⟨rfl, hb3⟩
  replace Pa := Pa.below hb3
  replace Pb := Pb.below hb3
  replace Pc := Pc.below hb3
  replace B := below_of B hb3 (by first | omega | (simp; done) | (simp; omega))
  have hs3 := B.size
  obtain ⟨pa, qa, ra, fa, ga⟩ := id Pa
  obtain ⟨pb, qb, rb, fb, gb⟩ := id Pb
  obtain ⟨pc, qc, rc, fc, gc⟩ := id Pc
  go_wp2_with fail
  refine (right_no hc _).mono ?_
  rintro e w4 ⟨rfl, hb4⟩
  replace Pa := Pa.below hb4
  replace Pb := Pb.below hb4
  replace Pc := Pc.below hb4
  replace B := below_of B hb4 (by first | omega | (simp; done) | (simp; omega))
  have hs4 := B.size
  obtain ⟨pa, qa, ra, fa, ga⟩ := id Pa
  obtain ⟨pb, qb, rb, fb, gb⟩ := id Pb
  obtain ⟨pc, qc, rc, fc, gc⟩ := id Pc
  go_wp2
  go_ret
  exact ⟨rfl, B⟩

/-- Small fractions, in lowest terms, are small. -/
theorem low_small {n d B D : Int} (hd : 0 < d) (h0 : -B ≤ n) (h1 : n ≤ B) (h2 : d ≤ D) : 0 < lD n d ∧ lD n d ≤ D ∧ -B ≤ lN n d ∧ lN n d ≤ B := by
  have a := lD_pos (n := n) hd
  have b := lD_le (n := n) hd
  have c := lN_abs hd h0 h1
  exact ⟨a, by omega, c.1, c.2⟩
theorem fok_of {n d B D : Int} (h : 0 < d ∧ d ≤ D ∧ -B ≤ n ∧ n ≤ B) (hB : B ≤ 1073741824) (hD : D ≤ 1073741824) : FOk n d := ⟨by omega, by omega, by omega, by omega⟩
theorem lowest_cross (n d : Int) : lN n d * d = n * lD n d := by
  have e1 := lN_mul n d
  have e2 := lD_mul n d
  generalize lN n d = a at *
  generalize lD n d = b at *
  generalize gF n d = g at *
  subst e1
  rw [← e2]
  ac_rfl
structure Sm (B D n d : Int) : Prop where
  d0 : 0 < d
  d1 : d ≤ D
  n0 : -B ≤ n
  n1 : n ≤ B
theorem Sm.low {B D n d : Int} (h : Sm B D n d) : Sm B D (lN n d) (lD n d) := by
  have := low_small h.d0 h.n0 h.n1 h.d1
  exact ⟨this.1, this.2.1, this.2.2.1, this.2.2.2⟩
theorem Sm.ok {B D n d : Int} (h : Sm B D n d) (hB : B ≤ 1073741824) (hD : D ≤ 1073741824) : FOk n d := ⟨by have := h.d0; omega, Int.le_trans h.d1 hD, by have := h.n0; omega, by have := h.n1; omega⟩
theorem Sm.mul {B D B' D' n d m e : Int} (h : Sm B D n d) (k : Sm B' D' m e) : Sm (B * B') (D * D') (n * m) (d * e) := by
  have p := prod_bound h.n0 h.n1 k.n0 k.n1
  have q := prod_bound (show -D ≤ d by have := h.d0; have := h.d1; omega) h.d1 (show -D' ≤ e by have := k.d0; have := k.d1; omega) k.d1
  exact ⟨Int.mul_pos h.d0 k.d0, q.2, p.1, p.2⟩
theorem Sm.add {B D B' D' n d m e : Int} (h : Sm B D n d) (k : Sm B' D' m e) : Sm (B * D' + B' * D) (D * D') (n * e + m * d) (d * e) := by
  have p1 := prod_bound h.n0 h.n1 (show -D' ≤ e by have := k.d0; have := k.d1; omega) k.d1
  have p2 := prod_bound k.n0 k.n1 (show -D ≤ d by have := h.d0; have := h.d1; omega) h.d1
  have q := prod_bound (show -D ≤ d by have := h.d0; have := h.d1; omega) h.d1 (show -D' ≤ e by have := k.d0; have := k.d1; omega) k.d1
  exact ⟨Int.mul_pos h.d0 k.d0, q.2, by omega, by omega⟩

theorem addF_sm {B D B' D' n d m e : Int} (h : Sm B D n d) (k : Sm B' D' m e) (c1 : B ≤ 1073741824) (c2 : D ≤ 1073741824) (c3 : B' ≤ 1073741824) (c4 : D' ≤ 1073741824) (c5 : B * D' + B' * D ≤ 1073741824) (c6 : D * D' ≤ 1073741824) (w : World) :
    Calls Try.prog 31 #[.agg #[.int .i64 n, .int .i64 d], .agg #[.int .i64 m, .int .i64 e]] w fun r w' =>
      r = .returned (.tuple #[.agg #[.int .i64 (lN (n * e + m * d) (d * e)), .int .i64 (lD (n * e + m * d) (d * e))], .int .i64 0]) ∧ Below w.heap.size w w' :=
  addF_yes n d m e (h.ok c1 c2) (k.ok c3 c4) ((h.add k).low.ok c5 c6) w
theorem mulF_sm {B D B' D' n d m e : Int} (h : Sm B D n d) (k : Sm B' D' m e) (c1 : B ≤ 1073741824) (c2 : D ≤ 1073741824) (c3 : B' ≤ 1073741824) (c4 : D' ≤ 1073741824) (c5 : B * B' ≤ 1073741824) (c6 : D * D' ≤ 1073741824) (w : World) :
    Calls Try.prog 32 #[.agg #[.int .i64 n, .int .i64 d], .agg #[.int .i64 m, .int .i64 e]] w fun r w' =>
      r = .returned (.tuple #[.agg #[.int .i64 (lN (n * m) (d * e)), .int .i64 (lD (n * m) (d * e))], .int .i64 0]) ∧ Below w.heap.size w w' :=
  mulF_yes n d m e (h.ok c1 c2) (k.ok c3 c4) ((h.mul k).low.ok c5 c6) w

/-- Products go into sums. -/
theorem distrib {an ad bn bd cn cd s t p q u v : Int} (hs : s * (ad * bd) = (an * bd + bn * ad) * t) (hp : p * (ad * cd) = an * cn * q) (hu : u * (bd * cd) = bn * cn * v) (h1 : 0 < ad) (h2 : 0 < bd) (h3 : 0 < cd) :
    s * cn * (q * v) = (p * v + u * q) * (t * cd) := by
  have h : s * cn * (q * v) * (ad * bd * (ad * bd * cd)) = (p * v + u * q) * (t * cd) * (ad * bd * (ad * bd * cd)) := by
    have l : s * cn * (q * v) * (ad * bd * (ad * bd * cd)) = s * (ad * bd) * (cn * q * v * (ad * bd * cd)) := by ac_rfl
    have r1 : (p * v + u * q) * (t * cd) * (ad * bd * (ad * bd * cd)) = p * (ad * cd) * (v * t * (bd * (ad * bd * cd))) + u * (bd * cd) * (q * t * (ad * (ad * bd * cd))) := by
      rw [Int.add_mul, Int.add_mul]
      congr 1 <;> ac_rfl
    rw [l, r1, hs, hp, hu, Int.add_mul, Int.add_mul]
    congr 1 <;> ac_rfl
  refine Int.eq_of_mul_eq_mul_right ?_ h
  have := Int.mul_pos (Int.mul_pos h1 h2) (Int.mul_pos (Int.mul_pos h1 h2) h3)
  omega
end Go.Proofs.Ytfopcipapphogaa
