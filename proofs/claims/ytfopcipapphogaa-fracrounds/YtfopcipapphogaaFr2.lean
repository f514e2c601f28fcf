/- Contracts of package frac: lowest terms. -/
import Derived.Test.YtfopcipapphogaaFr
import Derived.RegionTactic
import Derived.ChangeAlike
namespace Go.Proofs.Ytfopcipapphogaa
open Go.RowKit

theorem gcd_plus (n d : Int) (h0 : 0 ≤ n) (h1 : n ≤ 2305843009213693952) (h2 : 0 < d) (h3 : d ≤ 2305843009213693952) (w : World) :
    Calls Try.prog 25 #[.int .u64 n, .int .u64 d] w fun e w' => e = .returned (.int .u64 (gF n d)) ∧ ∃ n, w' = w.drewN n := by
  have e : gI n d = gF n d := by
    unfold gI gF
    rw [show n.toNat = n.natAbs from by omega, show d.toNat = d.natAbs from by omega]
  rw [← e]
  exact gcd_any n d ⟨h0, by omega⟩ ⟨by omega, by omega⟩ w
theorem gcd_minus (n d : Int) (h0 : n ≤ 0) (h1 : -2305843009213693952 ≤ n) (h2 : 0 < d) (h3 : d ≤ 2305843009213693952) (w : World) :
    Calls Try.prog 25 #[.int .u64 (-n), .int .u64 d] w fun e w' => e = .returned (.int .u64 (gF n d)) ∧ ∃ n, w' = w.drewN n := by
  have e : gI (-n) d = gF n d := by
    unfold gI gF
    rw [show (-n).toNat = n.natAbs from by omega, show d.toNat = d.natAbs from by omega]
  rw [← e]
  exact gcd_any (-n) d ⟨by omega, by omega⟩ ⟨by omega, by omega⟩ w

theorem lowest_any (n d : Int) (h0 : -2305843009213693952 ≤ n) (h1 : n ≤ 2305843009213693952) (h2 : 0 < d) (h3 : d ≤ 2305843009213693952) (w : World) :
    Calls Try.prog 76 #[.agg #[.int .i64 n, .int .i64 d]] w fun r w' =>
      r = .returned (.agg #[.int .i64 (lN n d), .int .i64 (lD n d)]) ∧ Below w.heap.size w w' := by
  have g0 := gF_pos (n := n) h2
  have g1 := gF_le (n := n) h2
  have gz : (gF n d == 0) = false := by simp; omega
  have t1 := tdiv_lN n d
  have t2 := tdiv_lD n d
  have l1 := lN_abs h2 h0 h1
  have l2 := lD_pos (n := n) h2
  have l3 := lD_le (n := n) h2
  go_enter Try.func76, Try.ntmps76
  go_wp2_with fail
  all_goals
    (first | with_reducible refine (gcd_minus n d (by omega) h0 h2 h3 _).mono ?_ | with_reducible refine (gcd_plus n d (by omega) h1 h2 h3 _).mono ?_)
    rintro e w1 ⟨rfl, k, rfl⟩
    go_wp2_with fail
    go_region
    go_wp2
    exact bodyPost_ret (v := .agg #[.int .i64 _, .int .i64 _]) (by simp [results, Try.results76, go_sem]) rfl
      ⟨rfl, ((below_drewN (((Below.refl w.heap.size w).alloc (Nat.le_refl _) _).alloc (by simp) _) _).setCell (by simp) _).setCell (by simp) _⟩

theorem fit_yes (n d : Int) (h0 : -2305843009213693952 ≤ n) (h1 : n ≤ 2305843009213693952) (h2 : 0 < d) (h3 : d ≤ 2305843009213693952) (hk : FOk (lN n d) (lD n d)) (w : World) :
    Calls Try.prog 70 #[.agg #[.int .i64 n, .int .i64 d]] w fun r w' =>
      r = .returned (.tuple #[.agg #[.int .i64 (lN n d), .int .i64 (lD n d)], .int .i64 0]) ∧ Below w.heap.size w w' := by
  go_enter Try.func70, Try.ntmps70
  have Pa := ((FAt.new w (n) (d)).alloc (.cells #[.int .i64 (0), .int .i64 (0)] 50)).at_ (b' := w.heap.size) (by simp)
  have Pz := (FAt.new (w.alloc (.cells #[.int .i64 (n), .int .i64 (d)] 50)) (0) (0)).at_ (b' := w.heap.size + 1) (by simp)
  have B := (((Below.refl w.heap.size w).alloc (by first | omega | (simp; done) | (simp; omega)) (.cells #[.int .i64 (n), .int .i64 (d)] 50)).alloc (by first | omega | (simp; done) | (simp; omega)) (.cells #[.int .i64 (0), .int .i64 (0)] 50))
  go_wp2_with fail
  refine (lowest_any n d h0 h1 h2 h3 _).mono ?_
  rintro e w1 ⟨rfl, hb1⟩
  replace Pa := Pa.below hb1
  replace Pz := Pz.below hb1
  replace B := below_of B hb1 (by first | omega | (simp; done) | (simp; omega))
  have hs1 := B.size
  obtain ⟨pa, qa, ra, fa, ga⟩ := id Pa
  obtain ⟨pz, qz, rz, fz, gz⟩ := id Pz
  have Pl := FAt.new w1 (lN n d) (lD n d)
  go_wp2_with fail
  refine (right_yes hk _).mono ?_
  rintro e w2 ⟨rfl, hb2⟩
  replace Pa := (Pa.alloc (.cells #[.int .i64 (lN n d), .int .i64 (lD n d)] 50)).below hb2
  replace Pz := (Pz.alloc (.cells #[.int .i64 (lN n d), .int .i64 (lD n d)] 50)).below hb2
  replace Pl := Pl.below hb2
  replace B := below_of (B.alloc (by first | omega | (simp; done) | (simp; omega)) (.cells #[.int .i64 (lN n d), .int .i64 (lD n d)] 50)) hb2 (by first | omega | (simp; done) | (simp; omega))
  have hs2 := B.size
  obtain ⟨pa, qa, ra, fa, ga⟩ := id Pa
  obtain ⟨pz, qz, rz, fz, gz⟩ := id Pz
  obtain ⟨pl, ql, rl, fl, gl⟩ := id Pl
  go_wp2
  exact bodyPost_ret (v := .tuple #[.agg #[.int .i64 (lN n d), .int .i64 (lD n d)], .int .i64 0]) (by simp [results, Try.results70, go_sem, pz, qz]) rfl ⟨rfl, ((B.setCell (by first | omega | (simp; done) | (simp; omega)) _).setCell (by first | omega | (simp; done) | (simp; omega)) _)⟩

theorem fit_no (n d : Int) (h0 : -2305843009213693952 ≤ n) (h1 : n ≤ 2305843009213693952) (h2 : 0 < d) (h3 : d ≤ 2305843009213693952) (hk : ¬ FOk (lN n d) (lD n d)) (w : World) :
    Calls Try.prog 70 #[.agg #[.int .i64 n, .int .i64 d]] w fun r w' =>
      r = .returned (.tuple #[.agg #[.int .i64 0, .int .i64 0], .int .i64 4]) ∧ Below w.heap.size w w' := by
  go_enter Try.func70, Try.ntmps70
  have Pa := ((FAt.new w (n) (d)).alloc (.cells #[.int .i64 (0), .int .i64 (0)] 50)).at_ (b' := w.heap.size) (by simp)
  have Pz := (FAt.new (w.alloc (.cells #[.int .i64 (n), .int .i64 (d)] 50)) (0) (0)).at_ (b' := w.heap.size + 1) (by simp)
  have B := (((Below.refl w.heap.size w).alloc (by first | omega | (simp; done) | (simp; omega)) (.cells #[.int .i64 (n), .int .i64 (d)] 50)).alloc (by first | omega | (simp; done) | (simp; omega)) (.cells #[.int .i64 (0), .int .i64 (0)] 50))
  go_wp2_with fail
  refine (lowest_any n d h0 h1 h2 h3 _).mono ?_
  rintro e w1 ⟨rfl, hb1⟩
  replace Pa := Pa.below hb1
  replace Pz := Pz.below hb1
  replace B := below_of B hb1 (by first | omega | (simp; done) | (simp; omega))
  have hs1 := B.size
  obtain ⟨pa, qa, ra, fa, ga⟩ := id Pa
  obtain ⟨pz, qz, rz, fz, gz⟩ := id Pz
  have Pl := FAt.new w1 (lN n d) (lD n d)
  go_wp2_with fail
  refine (right_no hk _).mono ?_
  rintro e w2 ⟨rfl, hb2⟩
  replace Pa := (Pa.alloc (.cells #[.int .i64 (lN n d), .int .i64 (lD n d)] 50)).below hb2
  replace Pz := (Pz.alloc (.cells #[.int .i64 (lN n d), .int .i64 (lD n d)] 50)).below hb2
  replace Pl := Pl.below hb2
  replace B := below_of (B.alloc (by first | omega | (simp; done) | (simp; omega)) (.cells #[.int .i64 (lN n d), .int .i64 (lD n d)] 50)) hb2 (by first | omega | (simp; done) | (simp; omega))
  have hs2 := B.size
  obtain ⟨pa, qa, ra, fa, ga⟩ := id Pa
  obtain ⟨pz, qz, rz, fz, gz⟩ := id Pz
  obtain ⟨pl, ql, rl, fl, gl⟩ := id Pl
  go_wp2
  exact bodyPost_ret (v := .tuple #[.agg #[.int .i64 0, .int .i64 0], .int .i64 4]) (by simp [results, Try.results70, go_sem, pz, qz]) rfl ⟨rfl, ((B.setCell (by first | omega | (simp; done) | (simp; omega)) _).setCell (by first | omega | (simp; done) | (simp; omega)) _)⟩

end Go.Proofs.Ytfopcipapphogaa
