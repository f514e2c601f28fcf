/- Package drr, plain: rounds enough. -/
import Derived.Test.YtgphbplmkegdeaaDlM
namespace Go.Proofs.Ytgphbplmkegdeaa

theorem tt_take_succ {l : List Int} {i : Nat} {x : Int} (h : l[i]? = some x) : tt (l.take (i + 1)) = tt (l.take i) + x := by
  rw [List.take_add_one, h]
  simp [tt_append, tt]
/-- n bytes in steps of t: (n + t - 1) / t steps. -/
theorem steps_enough {n t : Int} (_h : 0 ≤ n) (ht : 1 ≤ t) : n ≤ ((n + t - 1) / t) * t := by
  have h1 := Int.emod_add_mul_ediv (n + t - 1) t
  have h2 := Int.emod_lt_of_pos (n + t - 1) (show 0 < t by omega)
  rw [Int.mul_comm] at h1
  omega
/-- Rounds enough: nothing is left. -/
theorem fD_empty {xs : List Int} {fs : List (List Int)} (hR : Right xs fs) (n : Nat) {q j : Nat} (h : tt (fl fs j) ≤ (q : Int) * fn xs j) : (fD xs fs (List.replicate n 0) q j).2.1 = [] ∧ (fD xs fs (List.replicate n 0) q j).2.2 = 0 := (fD_keeps hR n q j).empty (hR.sizes j) h
/-- So many rounds serve the first i flows. -/
def Enough (xs : List Int) (fs : List (List Int)) (N : Int) (i : Nat) : Prop := ∀ j, j < i → j < xs.length → 1 ≤ fn xs j → fn xs j ≤ 10000 → tt (fl fs j) ≤ N * fn xs j
theorem Enough.skip {xs : List Int} {fs : List (List Int)} {N : Int} {i : Nat} (h : Enough xs fs N i) (hi : ¬ (i < xs.length ∧ 1 ≤ fn xs i)) : Enough xs fs N (i + 1) := fun j hj h1 h2 h3 => by
  by_cases e : j = i
  · subst e
    exact absurd ⟨h1, h2⟩ hi
  · exact h j (by omega) h1 h2 h3
theorem Enough.max {xs : List Int} {fs : List (List Int)} {N K M : Int} {i : Nat} (h : Enough xs fs N i) (hM : max N K = M) (hK : fn xs i ≤ 10000 → 1 ≤ fn xs i → tt (fl fs i) ≤ K * fn xs i) : Enough xs fs M (i + 1) := fun j hj h1 h2 h3 => by
  by_cases e : j = i
  · subst e
    exact Int.le_trans (hK h3 h2) (Int.mul_le_mul_of_nonneg_right (by omega) (by omega))
  · exact Int.le_trans (h j (by omega) h1 h2 h3) (Int.mul_le_mul_of_nonneg_right (by omega) (by omega))
theorem wrap_range (x : Int) : -9223372036854775808 ≤ IntKind.i64.wrap x ∧ IntKind.i64.wrap x ≤ 9223372036854775807 := by
  rw [IntKind.wrap_i64]
  omega
/-- A sum that is in bounds did not overflow. -/
theorem no_overflow {n x : Int} (h0 : 0 ≤ n) (h1 : n ≤ 1073741824) (hx : -9223372036854775808 ≤ x ∧ x ≤ 9223372036854775807) (h : 0 ≤ IntKind.i64.wrap (n + x)) (h2 : IntKind.i64.wrap (n + x) ≤ 1073741824) : IntKind.i64.wrap (n + x) = n + x := by
  rw [IntKind.wrap_i64] at *
  omega
end Go.Proofs.Ytgphbplmkegdeaa
