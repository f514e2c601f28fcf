/- FracRound of package weirhousekeep: its walk. -/
import Derived.Test.YtfopcipapphogaaFrAlive
namespace Go.Proofs.Ytfopcipapphogaa
open Go.RowKit

/-- What floor and ceiling are to a fraction, as the words reckon it. -/
theorem round_facts {n d : Int} (h : FOk n d) :
    ∃ A B C : Int, IntKind.i64.wrap (n / d * d) = A ∧ IntKind.i64.wrap ((n / d + 1) * d) = B ∧ IntKind.i64.wrap (-((-n) / d) * d) = C ∧ A ≤ n ∧ n < B ∧ n ≤ C ∧ -((-n) / d) - n / d ≤ 1 ∧
      (-1073741824 ≤ n / d ∧ n / d ≤ 1073741824) ∧ (-1073741824 ≤ -((-n) / d) ∧ -((-n) / d) ≤ 1073741824) ∧ ((-((-n) / d) == n / d) == (n.tmod d == 0)) = true := by
  obtain ⟨d0, d1, n0, n1⟩ := id h
  have hd : 0 < d := by omega
  have b1 := ediv_bound h
  have b2 := ediv_bound (show FOk (-n) d from ⟨d0, d1, by omega, by omega⟩)
  have e1 := Int.ediv_mul_add_emod n d
  have r0 := Int.emod_nonneg n (show d ≠ 0 by omega)
  have r1 := Int.emod_lt_of_pos n hd
  have e2 := Int.ediv_mul_add_emod (-n) d
  have s0 := Int.emod_nonneg (-n) (show d ≠ 0 by omega)
  have s1 := Int.emod_lt_of_pos (-n) hd
  have t0 : n.tmod d = 0 ↔ n % d = 0 := by
    rw [← Int.dvd_iff_tmod_eq_zero, ← Int.dvd_iff_emod_eq_zero]
  generalize n / d = q at *
  generalize (-n) / d = p at *
  generalize n % d = r at *
  generalize (-n) % d = s at *
  have e3 : (q + p) * d = -(r + s) := by rw [Int.add_mul]; omega
  have c : (q + p = 0 ∧ r = 0) ∨ (q + p = -1 ∧ r ≠ 0) := by
    rcases Int.lt_or_le (q + p) (-1) with k | k
    · have := Int.mul_le_mul_of_nonneg_right (show q + p ≤ -2 by omega) (show 0 ≤ d by omega)
      omega
    · rcases Int.lt_or_le 0 (q + p) with l | l
      · have := Int.mul_le_mul_of_nonneg_right (show 1 ≤ q + p by omega) (show 0 ≤ d by omega)
        omega
      · have : q + p = 0 ∨ q + p = -1 := by omega
        rcases this with k | k
        · left
          rw [k] at e3
          omega
        · right
          refine ⟨k, fun hr => ?_⟩
          rw [k] at e3
          omega
  have m1 : (q + 1) * d = q * d + d := by rw [Int.add_mul, Int.one_mul]
  have m2 : -p * d = -(p * d) := Int.neg_mul p d
  refine ⟨q * d, (q + 1) * d, -p * d, ?_, ?_, ?_, by omega, by omega, by omega, by omega, b1, by omega, ?_⟩
  · rw [IntKind.wrap_i64]; omega
  · rw [IntKind.wrap_i64]; omega
  · rw [IntKind.wrap_i64]; omega
  · rcases c with ⟨c1, c2⟩ | ⟨c1, c2⟩
    · have : (-p == q) = true := by simp; omega
      have k : (n.tmod d == 0) = true := by simp [t0.2 c2]
      rw [this, k]; rfl
    · have : (-p == q) = false := by simp; omega
      have k : (n.tmod d == 0) = false := by
        simp only [beq_eq_false_iff_ne, ne_eq]
        exact fun h => c2 (t0.1 h)
      rw [this, k]; rfl

set_option maxRecDepth 100000 in
theorem round_no (n d : Int) (h : ¬ FOk n d) (w : World) :
    Calls Try.prog 9 #[.agg #[.int .i64 n, .int .i64 d]] w fun e w' => e = .returned (.bool true) ∧ Below w.heap.size w w' := by
  go_enter Try.func9, Try.ntmps9
  have Pa := (FAt.new w (n) (d)).at_ (b' := w.heap.size) (by simp)
  have B := ((Below.refl w.heap.size w).alloc (by first | omega | (simp; done) | (simp; omega)) (.cells #[.int .i64 (n), .int .i64 (d)] 50))
  go_wp2_with fail
  refine (alive2 _).mono ?_
  rintro e w1 ⟨rfl, hb1⟩
  replace Pa := Pa.below hb1
  replace B := below_of B hb1 (by first | omega | (simp; done) | (simp; omega))
  have hs1 := B.size
  obtain ⟨pa, qa, ra, fa, ga⟩ := id Pa
  go_wp2_with fail
  refine (floorF_no n d h _).mono ?_
  rintro e w2 ⟨rfl, hb2⟩
  replace Pa := Pa.below hb2
  replace B := below_of B hb2 (by first | omega | (simp; done) | (simp; omega))
  have hs2 := B.size
  obtain ⟨pa, qa, ra, fa, ga⟩ := id Pa
  go_wp2_with fail
  refine (ceilF_no n d h _).mono ?_
  rintro e w3 ⟨rfl, hb3⟩
  replace Pa := Pa.below hb3
  replace B := below_of B hb3 (by first | omega | (simp; done) | (simp; omega))
  have hs3 := B.size
  obtain ⟨pa, qa, ra, fa, ga⟩ := id Pa
  go_wp2
  go_ret
  exact ⟨rfl, B⟩

set_option maxRecDepth 100000 in
theorem round_yes (n d : Int) (h : FOk n d) (w : World) :
    Calls Try.prog 9 #[.agg #[.int .i64 n, .int .i64 d]] w fun e w' => e = .returned (.bool true) ∧ Below w.heap.size w w' := by
  obtain ⟨A, B1, C, w1, w2, w3, l1, l2, l3, l4, l5, l6, l7⟩ := round_facts h
  have dz : (d == 0) = false := by have := h.d0; simp; omega
  have dp : 0 < d := h.d0
  go_enter Try.func9, Try.ntmps9
  have Pa := (FAt.new w (n) (d)).at_ (b' := w.heap.size) (by simp)
  have B := ((Below.refl w.heap.size w).alloc (by first | omega | (simp; done) | (simp; omega)) (.cells #[.int .i64 (n), .int .i64 (d)] 50))
  go_wp2_with fail
  refine (alive2 _).mono ?_
  rintro e w1 ⟨rfl, hb1⟩
  replace Pa := Pa.below hb1
  replace B := below_of B hb1 (by first | omega | (simp; done) | (simp; omega))
  have hs1 := B.size
  obtain ⟨pa, qa, ra, fa, ga⟩ := id Pa
  go_wp2_with fail
  refine (floorF_yes n d h _).mono ?_
  rintro e w2 ⟨rfl, hb2⟩
  replace Pa := Pa.below hb2
  replace B := below_of B hb2 (by first | omega | (simp; done) | (simp; omega))
  have hs2 := B.size
  obtain ⟨pa, qa, ra, fa, ga⟩ := id Pa
  go_wp2_with fail
  refine (ceilF_yes n d h _).mono ?_
  rintro e w3 ⟨rfl, hb3⟩
  replace Pa := Pa.below hb3
  replace B := below_of B hb3 (by first | omega | (simp; done) | (simp; omega))
  have hs3 := B.size
  obtain ⟨pa, qa, ra, fa, ga⟩ := id Pa
  go_wp2_with fail
  go_ret
  exact ⟨by simp, B⟩

theorem round_all (n d : Int) (w : World) :
    Calls Try.prog 9 #[.agg #[.int .i64 n, .int .i64 d]] w fun e w' => e = .returned (.bool true) ∧ Below w.heap.size w w' := by
  by_cases h : FOk n d
  · exact round_yes n d h w
  · exact round_no n d h w
end Go.Proofs.Ytfopcipapphogaa
