/- Contracts of package frac: Add, Mul, Low, Floor, Ceil. -/
import Derived.Test.YtfopcipapphogaaFr2
namespace Go.Proofs.Ytfopcipapphogaa
open Go.RowKit

theorem addF_yes (n d m e : Int) (h1 : FOk n d) (h2 : FOk m e) (hk : FOk (lN (n * e + m * d) (d * e)) (lD (n * e + m * d) (d * e))) (w : World) :
    Calls Try.prog 31 #[.agg #[.int .i64 n, .int .i64 d], .agg #[.int .i64 m, .int .i64 e]] w fun r w' =>
      r = .returned (.tuple #[.agg #[.int .i64 (lN (n * e + m * d) (d * e)), .int .i64 (lD (n * e + m * d) (d * e))], .int .i64 0]) ∧ Below w.heap.size w w' := by
  have p1 := prod_bound h1.n0 h1.n1 (show -1073741824 ≤ e by have := h2.d0; omega) h2.d1
  have p2 := prod_bound h2.n0 h2.n1 (show -1073741824 ≤ d by have := h1.d0; omega) h1.d1
  have p3 := prod_bound (show -1073741824 ≤ d by have := h1.d0; omega) h1.d1 (show -1073741824 ≤ e by have := h2.d0; omega) h2.d1
  have p4 := prod_bound h1.n0 h1.n1 h2.n0 h2.n1
  have p5 : 0 < d * e := Int.mul_pos h1.d0 h2.d0
  go_enter Try.func31, Try.ntmps31
  have Pa := (((FAt.new w (n) (d)).alloc (.cells #[.int .i64 (m), .int .i64 (e)] 50)).alloc (.cells #[.int .i64 (0), .int .i64 (0)] 50)).at_ (b' := w.heap.size) (by simp)
  have Pb := ((FAt.new (w.alloc (.cells #[.int .i64 (n), .int .i64 (d)] 50)) (m) (e)).alloc (.cells #[.int .i64 (0), .int .i64 (0)] 50)).at_ (b' := w.heap.size + 1) (by simp)
  have Pz := (FAt.new ((w.alloc (.cells #[.int .i64 (n), .int .i64 (d)] 50)).alloc (.cells #[.int .i64 (m), .int .i64 (e)] 50)) (0) (0)).at_ (b' := w.heap.size + 1 + 1) (by simp)
  have B := ((((Below.refl w.heap.size w).alloc (by first | omega | (simp; done) | (simp; omega)) (.cells #[.int .i64 (n), .int .i64 (d)] 50)).alloc (by first | omega | (simp; done) | (simp; omega)) (.cells #[.int .i64 (m), .int .i64 (e)] 50)).alloc (by first | omega | (simp; done) | (simp; omega)) (.cells #[.int .i64 (0), .int .i64 (0)] 50))
  go_wp2_with fail
  refine (right_yes h1 _).mono ?_
  rintro e w1 ⟨rfl, hb1⟩
  replace Pa := Pa.below hb1
  replace Pb := Pb.below hb1
  replace Pz := Pz.below hb1
  replace B := below_of B hb1 (by first | omega | (simp; done) | (simp; omega))
  have hs1 := B.size
  obtain ⟨pa, qa, ra, fa, ga⟩ := id Pa
  obtain ⟨pb, qb, rb, fb, gb⟩ := id Pb
  obtain ⟨pz, qz, rz, fz, gz⟩ := id Pz
  go_wp2_with fail
  refine (right_yes h2 _).mono ?_
  rintro e w2 ⟨rfl, hb2⟩
  replace Pa := Pa.below hb2
  replace Pb := Pb.below hb2
  replace Pz := Pz.below hb2
  replace B := below_of B hb2 (by first | omega | (simp; done) | (simp; omega))
  have hs2 := B.size
  obtain ⟨pa, qa, ra, fa, ga⟩ := id Pa
  obtain ⟨pb, qb, rb, fb, gb⟩ := id Pb
  obtain ⟨pz, qz, rz, fz, gz⟩ := id Pz
  go_wp2_with fail
  refine (fit_yes (n * e + m * d) (d * e) (by omega) (by omega) p5 (by omega) hk _).mono ?_
  rintro e w3 ⟨rfl, hb3⟩
  replace Pa := Pa.below hb3
  replace Pb := Pb.below hb3
  replace Pz := Pz.below hb3
  replace B := below_of B hb3 (by first | omega | (simp; done) | (simp; omega))
  have hs3 := B.size
  obtain ⟨pa, qa, ra, fa, ga⟩ := id Pa
  obtain ⟨pb, qb, rb, fb, gb⟩ := id Pb
  obtain ⟨pz, qz, rz, fz, gz⟩ := id Pz
  go_wp2
  exact bodyPost_ret (v := .tuple #[.agg #[.int .i64 (lN (n * e + m * d) (d * e)), .int .i64 (lD (n * e + m * d) (d * e))], .int .i64 0]) (by simp [results, Try.results31, go_sem, pz, qz]) rfl ⟨rfl, ((B.setCell (by first | omega | (simp; done) | (simp; omega)) _).setCell (by first | omega | (simp; done) | (simp; omega)) _)⟩

theorem addF_full (n d m e : Int) (h1 : FOk n d) (h2 : FOk m e) (hk : ¬ FOk (lN (n * e + m * d) (d * e)) (lD (n * e + m * d) (d * e))) (w : World) :
    Calls Try.prog 31 #[.agg #[.int .i64 n, .int .i64 d], .agg #[.int .i64 m, .int .i64 e]] w fun r w' =>
      r = .returned (.tuple #[.agg #[.int .i64 0, .int .i64 0], .int .i64 4]) ∧ Below w.heap.size w w' := by
  have p1 := prod_bound h1.n0 h1.n1 (show -1073741824 ≤ e by have := h2.d0; omega) h2.d1
  have p2 := prod_bound h2.n0 h2.n1 (show -1073741824 ≤ d by have := h1.d0; omega) h1.d1
  have p3 := prod_bound (show -1073741824 ≤ d by have := h1.d0; omega) h1.d1 (show -1073741824 ≤ e by have := h2.d0; omega) h2.d1
  have p4 := prod_bound h1.n0 h1.n1 h2.n0 h2.n1
  have p5 : 0 < d * e := Int.mul_pos h1.d0 h2.d0
  go_enter Try.func31, Try.ntmps31
  have Pa := (((FAt.new w (n) (d)).alloc (.cells #[.int .i64 (m), .int .i64 (e)] 50)).alloc (.cells #[.int .i64 (0), .int .i64 (0)] 50)).at_ (b' := w.heap.size) (by simp)
  have Pb := ((FAt.new (w.alloc (.cells #[.int .i64 (n), .int .i64 (d)] 50)) (m) (e)).alloc (.cells #[.int .i64 (0), .int .i64 (0)] 50)).at_ (b' := w.heap.size + 1) (by simp)
  have Pz := (FAt.new ((w.alloc (.cells #[.int .i64 (n), .int .i64 (d)] 50)).alloc (.cells #[.int .i64 (m), .int .i64 (e)] 50)) (0) (0)).at_ (b' := w.heap.size + 1 + 1) (by simp)
  have B := ((((Below.refl w.heap.size w).alloc (by first | omega | (simp; done) | (simp; omega)) (.cells #[.int .i64 (n), .int .i64 (d)] 50)).alloc (by first | omega | (simp; done) | (simp; omega)) (.cells #[.int .i64 (m), .int .i64 (e)] 50)).alloc (by first | omega | (simp; done) | (simp; omega)) (.cells #[.int .i64 (0), .int .i64 (0)] 50))
  go_wp2_with fail
  refine (right_yes h1 _).mono ?_
  rintro e w1 ⟨rfl, hb1⟩
  replace Pa := Pa.below hb1
  replace Pb := Pb.below hb1
  replace Pz := Pz.below hb1
  replace B := below_of B hb1 (by first | omega | (simp; done) | (simp; omega))
  have hs1 := B.size
  obtain ⟨pa, qa, ra, fa, ga⟩ := id Pa
  obtain ⟨pb, qb, rb, fb, gb⟩ := id Pb
  obtain ⟨pz, qz, rz, fz, gz⟩ := id Pz
  go_wp2_with fail
  refine (right_yes h2 _).mono ?_
  rintro e w2 ⟨rfl, hb2⟩
  replace Pa := Pa.below hb2
  replace Pb := Pb.below hb2
  replace Pz := Pz.below hb2
  replace B := below_of B hb2 (by first | omega | (simp; done) | (simp; omega))
  have hs2 := B.size
  obtain ⟨pa, qa, ra, fa, ga⟩ := id Pa
  obtain ⟨pb, qb, rb, fb, gb⟩ := id Pb
  obtain ⟨pz, qz, rz, fz, gz⟩ := id Pz
  go_wp2_with fail
  refine (fit_no (n * e + m * d) (d * e) (by omega) (by omega) p5 (by omega) hk _).mono ?_
  rintro e w3 ⟨rfl, hb3⟩
  replace Pa := Pa.below hb3
  replace Pb := Pb.below hb3
  replace Pz := Pz.below hb3
  replace B := below_of B hb3 (by first | omega | (simp; done) | (simp; omega))
  have hs3 := B.size
  obtain ⟨pa, qa, ra, fa, ga⟩ := id Pa
  obtain ⟨pb, qb, rb, fb, gb⟩ := id Pb
  obtain ⟨pz, qz, rz, fz, gz⟩ := id Pz
  go_wp2
  exact bodyPost_ret (v := .tuple #[.agg #[.int .i64 0, .int .i64 0], .int .i64 4]) (by simp [results, Try.results31, go_sem, pz, qz]) rfl ⟨rfl, ((B.setCell (by first | omega | (simp; done) | (simp; omega)) _).setCell (by first | omega | (simp; done) | (simp; omega)) _)⟩

theorem mulF_yes (n d m e : Int) (h1 : FOk n d) (h2 : FOk m e) (hk : FOk (lN (n * m) (d * e)) (lD (n * m) (d * e))) (w : World) :
    Calls Try.prog 32 #[.agg #[.int .i64 n, .int .i64 d], .agg #[.int .i64 m, .int .i64 e]] w fun r w' =>
      r = .returned (.tuple #[.agg #[.int .i64 (lN (n * m) (d * e)), .int .i64 (lD (n * m) (d * e))], .int .i64 0]) ∧ Below w.heap.size w w' := by
  have p1 := prod_bound h1.n0 h1.n1 (show -1073741824 ≤ e by have := h2.d0; omega) h2.d1
  have p2 := prod_bound h2.n0 h2.n1 (show -1073741824 ≤ d by have := h1.d0; omega) h1.d1
  have p3 := prod_bound (show -1073741824 ≤ d by have := h1.d0; omega) h1.d1 (show -1073741824 ≤ e by have := h2.d0; omega) h2.d1
  have p4 := prod_bound h1.n0 h1.n1 h2.n0 h2.n1
  have p5 : 0 < d * e := Int.mul_pos h1.d0 h2.d0
  go_enter Try.func32, Try.ntmps32
  have Pa := (((FAt.new w (n) (d)).alloc (.cells #[.int .i64 (m), .int .i64 (e)] 50)).alloc (.cells #[.int .i64 (0), .int .i64 (0)] 50)).at_ (b' := w.heap.size) (by simp)
  have Pb := ((FAt.new (w.alloc (.cells #[.int .i64 (n), .int .i64 (d)] 50)) (m) (e)).alloc (.cells #[.int .i64 (0), .int .i64 (0)] 50)).at_ (b' := w.heap.size + 1) (by simp)
  have Pz := (FAt.new ((w.alloc (.cells #[.int .i64 (n), .int .i64 (d)] 50)).alloc (.cells #[.int .i64 (m), .int .i64 (e)] 50)) (0) (0)).at_ (b' := w.heap.size + 1 + 1) (by simp)
  have B := ((((Below.refl w.heap.size w).alloc (by first | omega | (simp; done) | (simp; omega)) (.cells #[.int .i64 (n), .int .i64 (d)] 50)).alloc (by first | omega | (simp; done) | (simp; omega)) (.cells #[.int .i64 (m), .int .i64 (e)] 50)).alloc (by first | omega | (simp; done) | (simp; omega)) (.cells #[.int .i64 (0), .int .i64 (0)] 50))
  go_wp2_with fail
  refine (right_yes h1 _).mono ?_
  rintro e w1 ⟨rfl, hb1⟩
  replace Pa := Pa.below hb1
  replace Pb := Pb.below hb1
  replace Pz := Pz.below hb1
  replace B := below_of B hb1 (by first | omega | (simp; done) | (simp; omega))
  have hs1 := B.size
  obtain ⟨pa, qa, ra, fa, ga⟩ := id Pa
  obtain ⟨pb, qb, rb, fb, gb⟩ := id Pb
  obtain ⟨pz, qz, rz, fz, gz⟩ := id Pz
  go_wp2_with fail
  refine (right_yes h2 _).mono ?_
  rintro e w2 ⟨rfl, hb2⟩
  replace Pa := Pa.below hb2
  replace Pb := Pb.below hb2
  replace Pz := Pz.below hb2
  replace B := below_of B hb2 (by first | omega | (simp; done) | (simp; omega))
  have hs2 := B.size
  obtain ⟨pa, qa, ra, fa, ga⟩ := id Pa
  obtain ⟨pb, qb, rb, fb, gb⟩ := id Pb
  obtain ⟨pz, qz, rz, fz, gz⟩ := id Pz
  go_wp2_with fail
  refine (fit_yes (n * m) (d * e) (by omega) (by omega) p5 (by omega) hk _).mono ?_
  rintro e w3 ⟨rfl, hb3⟩
  replace Pa := Pa.below hb3
  replace Pb := Pb.below hb3
  replace Pz := Pz.below hb3
  replace B := below_of B hb3 (by first | omega | (simp; done) | (simp; omega))
  have hs3 := B.size
  obtain ⟨pa, qa, ra, fa, ga⟩ := id Pa
  obtain ⟨pb, qb, rb, fb, gb⟩ := id Pb
  obtain ⟨pz, qz, rz, fz, gz⟩ := id Pz
  go_wp2
  exact bodyPost_ret (v := .tuple #[.agg #[.int .i64 (lN (n * m) (d * e)), .int .i64 (lD (n * m) (d * e))], .int .i64 0]) (by simp [results, Try.results32, go_sem, pz, qz]) rfl ⟨rfl, ((B.setCell (by first | omega | (simp; done) | (simp; omega)) _).setCell (by first | omega | (simp; done) | (simp; omega)) _)⟩

theorem mulF_full (n d m e : Int) (h1 : FOk n d) (h2 : FOk m e) (hk : ¬ FOk (lN (n * m) (d * e)) (lD (n * m) (d * e))) (w : World) :
    Calls Try.prog 32 #[.agg #[.int .i64 n, .int .i64 d], .agg #[.int .i64 m, .int .i64 e]] w fun r w' =>
      r = .returned (.tuple #[.agg #[.int .i64 0, .int .i64 0], .int .i64 4]) ∧ Below w.heap.size w w' := by
  have p1 := prod_bound h1.n0 h1.n1 (show -1073741824 ≤ e by have := h2.d0; omega) h2.d1
  have p2 := prod_bound h2.n0 h2.n1 (show -1073741824 ≤ d by have := h1.d0; omega) h1.d1
  have p3 := prod_bound (show -1073741824 ≤ d by have := h1.d0; omega) h1.d1 (show -1073741824 ≤ e by have := h2.d0; omega) h2.d1
  have p4 := prod_bound h1.n0 h1.n1 h2.n0 h2.n1
  have p5 : 0 < d * e := Int.mul_pos h1.d0 h2.d0
  go_enter Try.func32, Try.ntmps32
  have Pa := (((FAt.new w (n) (d)).alloc (.cells #[.int .i64 (m), .int .i64 (e)] 50)).alloc (.cells #[.int .i64 (0), .int .i64 (0)] 50)).at_ (b' := w.heap.size) (by simp)
  have Pb := ((FAt.new (w.alloc (.cells #[.int .i64 (n), .int .i64 (d)] 50)) (m) (e)).alloc (.cells #[.int .i64 (0), .int .i64 (0)] 50)).at_ (b' := w.heap.size + 1) (by simp)
  have Pz := (FAt.new ((w.alloc (.cells #[.int .i64 (n), .int .i64 (d)] 50)).alloc (.cells #[.int .i64 (m), .int .i64 (e)] 50)) (0) (0)).at_ (b' := w.heap.size + 1 + 1) (by simp)
  have B := ((((Below.refl w.heap.size w).alloc (by first | omega | (simp; done) | (simp; omega)) (.cells #[.int .i64 (n), .int .i64 (d)] 50)).alloc (by first | omega | (simp; done) | (simp; omega)) (.cells #[.int .i64 (m), .int .i64 (e)] 50)).alloc (by first | omega | (simp; done) | (simp; omega)) (.cells #[.int .i64 (0), .int .i64 (0)] 50))
  go_wp2_with fail
  refine (right_yes h1 _).mono ?_
  rintro e w1 ⟨rfl, hb1⟩
  replace Pa := Pa.below hb1
  replace Pb := Pb.below hb1
  replace Pz := Pz.below hb1
  replace B := below_of B hb1 (by first | omega | (simp; done) | (simp; omega))
  have hs1 := B.size
  obtain ⟨pa, qa, ra, fa, ga⟩ := id Pa
  obtain ⟨pb, qb, rb, fb, gb⟩ := id Pb
  obtain ⟨pz, qz, rz, fz, gz⟩ := id Pz
  go_wp2_with fail
  refine (right_yes h2 _).mono ?_
  rintro e w2 ⟨rfl, hb2⟩
  replace Pa := Pa.below hb2
  replace Pb := Pb.below hb2
  replace Pz := Pz.below hb2
  replace B := below_of B hb2 (by first | omega | (simp; done) | (simp; omega))
  have hs2 := B.size
  obtain ⟨pa, qa, ra, fa, ga⟩ := id Pa
  obtain ⟨pb, qb, rb, fb, gb⟩ := id Pb
  obtain ⟨pz, qz, rz, fz, gz⟩ := id Pz
  go_wp2_with fail
  refine (fit_no (n * m) (d * e) (by omega) (by omega) p5 (by omega) hk _).mono ?_
  rintro e w3 ⟨rfl, hb3⟩
  replace Pa := Pa.below hb3
  replace Pb := Pb.below hb3
  replace Pz := Pz.below hb3
  replace B := below_of B hb3 (by first | omega | (simp; done) | (simp; omega))
  have hs3 := B.size
  obtain ⟨pa, qa, ra, fa, ga⟩ := id Pa
  obtain ⟨pb, qb, rb, fb, gb⟩ := id Pb
  obtain ⟨pz, qz, rz, fz, gz⟩ := id Pz
  go_wp2
  exact bodyPost_ret (v := .tuple #[.agg #[.int .i64 0, .int .i64 0], .int .i64 4]) (by simp [results, Try.results32, go_sem, pz, qz]) rfl ⟨rfl, ((B.setCell (by first | omega | (simp; done) | (simp; omega)) _).setCell (by first | omega | (simp; done) | (simp; omega)) _)⟩

theorem low_yes (n d : Int) (h1 : FOk n d) (w : World) :
    Calls Try.prog 40 #[.agg #[.int .i64 n, .int .i64 d]] w fun r w' =>
      r = .returned (.tuple #[.agg #[.int .i64 (lN n d), .int .i64 (lD n d)], .int .i64 0]) ∧ Below w.heap.size w w' := by
  obtain ⟨a0, a1, a2, a3⟩ := id h1
  go_enter Try.func40, Try.ntmps40
  have Pa := ((FAt.new w (n) (d)).alloc (.cells #[.int .i64 (0), .int .i64 (0)] 50)).at_ (b' := w.heap.size) (by simp)
  have Pz := (FAt.new (w.alloc (.cells #[.int .i64 (n), .int .i64 (d)] 50)) (0) (0)).at_ (b' := w.heap.size + 1) (by simp)
  have B := (((Below.refl w.heap.size w).alloc (by first | omega | (simp; done) | (simp; omega)) (.cells #[.int .i64 (n), .int .i64 (d)] 50)).alloc (by first | omega | (simp; done) | (simp; omega)) (.cells #[.int .i64 (0), .int .i64 (0)] 50))
  go_wp2_with fail
  refine (right_yes h1 _).mono ?_
  rintro e w1 ⟨rfl, hb1⟩
  replace Pa := Pa.below hb1
  replace Pz := Pz.below hb1
  replace B := below_of B hb1 (by first | omega | (simp; done) | (simp; omega))
  have hs1 := B.size
  obtain ⟨pa, qa, ra, fa, ga⟩ := id Pa
  obtain ⟨pz, qz, rz, fz, gz⟩ := id Pz
  go_wp2_with fail
  refine (lowest_any n d (by omega) (by omega) (by omega) (by omega) _).mono ?_
  rintro e w2 ⟨rfl, hb2⟩
  replace Pa := Pa.below hb2
  replace Pz := Pz.below hb2
  replace B := below_of B hb2 (by first | omega | (simp; done) | (simp; omega))
  have hs2 := B.size
  obtain ⟨pa, qa, ra, fa, ga⟩ := id Pa
  obtain ⟨pz, qz, rz, fz, gz⟩ := id Pz
  go_wp2
  exact bodyPost_ret (v := .tuple #[.agg #[.int .i64 (lN n d), .int .i64 (lD n d)], .int .i64 0]) (by simp [results, Try.results40, go_sem, pz, qz]) rfl ⟨rfl, ((B.setCell (by first | omega | (simp; done) | (simp; omega)) _).setCell (by first | omega | (simp; done) | (simp; omega)) _)⟩

theorem low_no (n d : Int) (h1 : ¬ FOk n d) (w : World) :
    Calls Try.prog 40 #[.agg #[.int .i64 n, .int .i64 d]] w fun r w' =>
      r = .returned (.tuple #[.agg #[.int .i64 0, .int .i64 0], .int .i64 2]) ∧ Below w.heap.size w w' := by
  go_enter Try.func40, Try.ntmps40
  have Pa := ((FAt.new w (n) (d)).alloc (.cells #[.int .i64 (0), .int .i64 (0)] 50)).at_ (b' := w.heap.size) (by simp)
  have Pz := (FAt.new (w.alloc (.cells #[.int .i64 (n), .int .i64 (d)] 50)) (0) (0)).at_ (b' := w.heap.size + 1) (by simp)
  have B := (((Below.refl w.heap.size w).alloc (by first | omega | (simp; done) | (simp; omega)) (.cells #[.int .i64 (n), .int .i64 (d)] 50)).alloc (by first | omega | (simp; done) | (simp; omega)) (.cells #[.int .i64 (0), .int .i64 (0)] 50))
  go_wp2_with fail
  refine (right_no h1 _).mono ?_
  rintro e w1 ⟨rfl, hb1⟩
  replace Pa := Pa.below hb1
  replace Pz := Pz.below hb1
  replace B := below_of B hb1 (by first | omega | (simp; done) | (simp; omega))
  have hs1 := B.size
  obtain ⟨pa, qa, ra, fa, ga⟩ := id Pa
  obtain ⟨pz, qz, rz, fz, gz⟩ := id Pz
  go_wp2
  exact bodyPost_ret (v := .tuple #[.agg #[.int .i64 0, .int .i64 0], .int .i64 2]) (by simp [results, Try.results40, go_sem, pz, qz]) rfl ⟨rfl, ((B.setCell (by first | omega | (simp; done) | (simp; omega)) _).setCell (by first | omega | (simp; done) | (simp; omega)) _)⟩

theorem tdiv_neg_case {n d : Int} (hd : 0 < d) (h : n.tmod d < 0) : n / d = n.tdiv d - 1 := by
  have e := Int.mul_tdiv_add_tmod n d
  have l : -d < n.tmod d := Int.lt_tmod_of_pos n hd
  refine ((Int.ediv_emod_unique (r := n.tmod d + d) hd).2 ⟨?_, by omega, by omega⟩).1
  rw [Int.mul_sub, Int.mul_one]
  omega
theorem tdiv_pos_case {n d : Int} (hd : 0 < d) (h : ¬ n.tmod d < 0) : n / d = n.tdiv d := by
  have e := Int.mul_tdiv_add_tmod n d
  have l : n.tmod d < d := Int.tmod_lt_of_pos n hd
  exact ((Int.ediv_emod_unique (r := n.tmod d) hd).2 ⟨by omega, by omega, by omega⟩).1

theorem tdiv_bound {n d : Int} (h0 : -1073741824 ≤ n) (h1 : n ≤ 1073741824) : -1073741824 ≤ n.tdiv d ∧ n.tdiv d ≤ 1073741824 := by
  have := Int.natAbs_tdiv_le_natAbs n d
  omega

theorem floor_any (n d : Int) (h1 : FOk n d) (w : World) :
    Calls Try.prog 77 #[.agg #[.int .i64 n, .int .i64 d]] w fun r w' =>
      r = .returned (.int .i64 (n / d)) ∧ Below w.heap.size w w' := by
  obtain ⟨a0, a1, a2, a3⟩ := id h1
  have dz : (d == 0) = false := by simp; omega
  have tb := tdiv_bound (d := d) a2 a3
  go_enter Try.func77, Try.ntmps77
  go_wp2_with fail
  · rename_i h
    go_ret
    exact ⟨ret_int (tdiv_neg_case (by omega) h).symm, (Below.refl _ _).alloc (Nat.le_refl _) _⟩
  · rename_i h
    go_ret
    exact ⟨ret_int (tdiv_pos_case (by omega) (by omega)).symm, (Below.refl _ _).alloc (Nat.le_refl _) _⟩

theorem ediv_bound {n d : Int} (h : FOk n d) : -1073741824 ≤ n / d ∧ n / d ≤ 1073741824 := by
  obtain ⟨a0, a1, a2, a3⟩ := id h
  have e := Int.ediv_mul_add_emod n d
  have r0 := Int.emod_nonneg n (show d ≠ 0 by omega)
  have r1 := Int.emod_lt_of_pos n (show 0 < d by omega)
  constructor
  · exact Int.le_ediv_of_mul_le (by omega) (by omega)
  · rcases Int.lt_or_le 1073741824 (n / d) with c | c
    · have := Int.mul_le_mul_of_nonneg_left a0 (show 0 ≤ n / d by omega)
      omega
    · exact c

theorem floorF_yes (n d : Int) (h1 : FOk n d) (w : World) :
    Calls Try.prog 41 #[.agg #[.int .i64 n, .int .i64 d]] w fun r w' =>
      r = .returned (.tuple #[.int .i64 (n / d), .int .i64 0]) ∧ Below w.heap.size w w' := by
  go_enter Try.func41, Try.ntmps41
  have Pa := (FAt.new w (n) (d)).at_ (b' := w.heap.size) (by simp)
  have B := ((Below.refl w.heap.size w).alloc (by first | omega | (simp; done) | (simp; omega)) (.cells #[.int .i64 (n), .int .i64 (d)] 50))
  go_wp2_with fail
  refine (right_yes h1 _).mono ?_
  rintro e w1 ⟨rfl, hb1⟩
  replace Pa := Pa.below hb1
  replace B := below_of B hb1 (by first | omega | (simp; done) | (simp; omega))
  have hs1 := B.size
  obtain ⟨pa, qa, ra, fa, ga⟩ := id Pa
  go_wp2_with fail
  refine (floor_any n d h1 _).mono ?_
  rintro e w2 ⟨rfl, hb2⟩
  replace Pa := Pa.below hb2
  replace B := below_of B hb2 (by first | omega | (simp; done) | (simp; omega))
  have hs2 := B.size
  obtain ⟨pa, qa, ra, fa, ga⟩ := id Pa
  go_wp2
  exact bodyPost_ret (v := .tuple #[.int .i64 (n / d), .int .i64 0]) (by simp [results, Try.results41, go_sem]) rfl ⟨rfl, B⟩

theorem floorF_no (n d : Int) (h1 : ¬ FOk n d) (w : World) :
    Calls Try.prog 41 #[.agg #[.int .i64 n, .int .i64 d]] w fun r w' =>
      r = .returned (.tuple #[.int .i64 0, .int .i64 2]) ∧ Below w.heap.size w w' := by
  go_enter Try.func41, Try.ntmps41
  have Pa := (FAt.new w (n) (d)).at_ (b' := w.heap.size) (by simp)
  have B := ((Below.refl w.heap.size w).alloc (by first | omega | (simp; done) | (simp; omega)) (.cells #[.int .i64 (n), .int .i64 (d)] 50))
  go_wp2_with fail
  refine (right_no h1 _).mono ?_
  rintro e w1 ⟨rfl, hb1⟩
  replace Pa := Pa.below hb1
  replace B := below_of B hb1 (by first | omega | (simp; done) | (simp; omega))
  have hs1 := B.size
  obtain ⟨pa, qa, ra, fa, ga⟩ := id Pa
  go_wp2
  exact bodyPost_ret (v := .tuple #[.int .i64 0, .int .i64 2]) (by simp [results, Try.results41, go_sem]) rfl ⟨rfl, B⟩

theorem ceilF_yes (n d : Int) (h1 : FOk n d) (w : World) :
    Calls Try.prog 42 #[.agg #[.int .i64 n, .int .i64 d]] w fun r w' =>
      r = .returned (.tuple #[.int .i64 (-((-n) / d)), .int .i64 0]) ∧ Below w.heap.size w w' := by
  obtain ⟨a0, a1, a2, a3⟩ := id h1
  have h2 : FOk (-n) d := ⟨a0, a1, by omega, by omega⟩
  have eb := ediv_bound h2
  go_enter Try.func42, Try.ntmps42
  have Pa := (FAt.new w (n) (d)).at_ (b' := w.heap.size) (by simp)
  have B := ((Below.refl w.heap.size w).alloc (by first | omega | (simp; done) | (simp; omega)) (.cells #[.int .i64 (n), .int .i64 (d)] 50))
  go_wp2_with fail
  refine (right_yes h1 _).mono ?_
  rintro e w1 ⟨rfl, hb1⟩
  replace Pa := Pa.below hb1
  replace B := below_of B hb1 (by first | omega | (simp; done) | (simp; omega))
  have hs1 := B.size
  obtain ⟨pa, qa, ra, fa, ga⟩ := id Pa
  go_wp2_with fail
  refine (floor_any (-n) d h2 _).mono ?_
  rintro e w2 ⟨rfl, hb2⟩
  replace Pa := Pa.below hb2
  replace B := below_of B hb2 (by first | omega | (simp; done) | (simp; omega))
  have hs2 := B.size
  obtain ⟨pa, qa, ra, fa, ga⟩ := id Pa
  go_wp2
  exact bodyPost_ret (v := .tuple #[.int .i64 (-((-n) / d)), .int .i64 0]) (by simp [results, Try.results42, go_sem]) rfl ⟨rfl, B⟩

theorem ceilF_no (n d : Int) (h1 : ¬ FOk n d) (w : World) :
    Calls Try.prog 42 #[.agg #[.int .i64 n, .int .i64 d]] w fun r w' =>
      r = .returned (.tuple #[.int .i64 0, .int .i64 2]) ∧ Below w.heap.size w w' := by
  go_enter Try.func42, Try.ntmps42
  have Pa := (FAt.new w (n) (d)).at_ (b' := w.heap.size) (by simp)
  have B := ((Below.refl w.heap.size w).alloc (by first | omega | (simp; done) | (simp; omega)) (.cells #[.int .i64 (n), .int .i64 (d)] 50))
  go_wp2_with fail
  refine (right_no h1 _).mono ?_
  rintro e w1 ⟨rfl, hb1⟩
  replace Pa := Pa.below hb1
  replace B := below_of B hb1 (by first | omega | (simp; done) | (simp; omega))
  have hs1 := B.size
  obtain ⟨pa, qa, ra, fa, ga⟩ := id Pa
  go_wp2
  exact bodyPost_ret (v := .tuple #[.int .i64 0, .int .i64 2]) (by simp [results, Try.results42, go_sem]) rfl ⟨rfl, B⟩

end Go.Proofs.Ytfopcipapphogaa
