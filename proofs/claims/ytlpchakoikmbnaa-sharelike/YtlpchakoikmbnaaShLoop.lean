/- Sharing by weights, plain: who is not short is taken out, till all that are left are. -/
import Derived.Test.YtlpchakoikmbnaaShMath
namespace Go.Proofs.Ytlpchakoikmbnaa

/-- The weights of those who are left; the wants of the others. -/
def dS (v : Nat → Int) (s : Nat → Bool) (n : Nat) : Int := su (fun k => if s k = true then v k else 0) n
def kS (w : Nat → Int) (s : Nat → Bool) (n : Nat) : Int := su (fun k => if s k = true then 0 else w k) n
theorem dS_zero {v : Nat → Int} {s : Nat → Bool} {n : Nat} (hv : ∀ k, k < n → 1 ≤ v k) (h : dS v s n = 0) {k : Nat} (hk : k < n) : s k = false := by
  cases hs : s k with
  | false => rfl
  | true =>
    exfalso
    have : su (fun _ => 0) n < dS v s n := by
      refine su_lt (fun j hj => ?_) ⟨k, hk, ?_⟩
      · have := hv j hj
        split <;> omega
      · rw [hs, if_pos rfl]
        have := hv k hk
        omega
    have h2 := su_nonneg (f := fun _ => 0) (n := n) (fun _ _ => Int.le_refl _)
    omega
theorem kS_all {w : Nat → Int} {s : Nat → Bool} {n : Nat} (h : ∀ k, k < n → s k = false) : kS w s n = su w n := su_congr fun k hk => by rw [h k hk, if_neg (by decide)]
/-- Between two rounds. -/
structure Left (A : Int) (w v : Nat → Int) (n : Nat) (s : Nat → Bool) : Prop where
  zero : dS v s n = 0 → su w n ≤ A
  out : 0 < dS v s n → ∀ k, k < n → s k = false → w k * dS v s n ≤ v k * (A - kS w s n)
theorem dS_nonneg {v : Nat → Int} {s : Nat → Bool} {n : Nat} (hv : ∀ k, k < n → 1 ≤ v k) : 0 ≤ dS v s n := su_nonneg fun k hk => by
  have := hv k hk
  split <;> omega
theorem Left.start {A : Int} {w v : Nat → Int} {n : Nat} {s : Nat → Bool} (hA : 0 ≤ A) (hv : ∀ k, k < n → 1 ≤ v k) (h : ∀ k, k < n → s k = true) : Left A w v n s := by
  refine ⟨fun h0 => ?_, fun _ k hk hs => by rw [h k hk] at hs; cases hs⟩
  cases n with
  | zero => rw [su_zero]; exact hA
  | succ n =>
    have := dS_zero hv h0 (k := 0) (by omega)
    rw [h 0 (by omega)] at this
    cases this
/-- Who is still short behind a round. -/
def nextS (A : Int) (w v : Nat → Int) (n : Nat) (s : Nat → Bool) (k : Nat) : Bool := s k && isS w v (A - kS w s n) (dS v s n) k
theorem Left.next {A : Int} {w v : Nat → Int} {n : Nat} {s : Nat → Bool} (h : Left A w v n s) (hv : ∀ k, k < n → 1 ≤ v k) (hD : 0 < dS v s n) : Left A w v n (nextS A w v n s) := by
  obtain ⟨D, eD⟩ : ∃ D, dS v s n = D := ⟨_, rfl⟩
  obtain ⟨N, eN⟩ : ∃ N, A - kS w s n = N := ⟨_, rfl⟩
  have ho := h.out hD
  rw [eD, eN] at ho
  rw [eD] at hD
  have hn : ∀ k, nextS A w v n s k = (s k && isS w v N D k) := fun k => by unfold nextS; rw [eD, eN]
  generalize nextS A w v n s = s' at *
  have key : N * dS v s' n ≤ (A - kS w s' n) * D := by
    have e1 : dS v s' n + su (fun k => if s k = true ∧ isS w v N D k = false then v k else 0) n = D := by
      refine Eq.trans ?_ eD
      unfold dS
      rw [← su_add]
      refine su_congr fun k _ => ?_
      rw [hn k]
      cases s k <;> cases isS w v N D k <;> simp
    have e2 : kS w s n + su (fun k => if s k = true ∧ isS w v N D k = false then w k else 0) n = kS w s' n := by
      unfold kS
      rw [← su_add]
      refine su_congr fun k _ => ?_
      rw [hn k]
      cases s k <;> cases isS w v N D k <;> simp
    have e3 : D * su (fun k => if s k = true ∧ isS w v N D k = false then w k else 0) n ≤ N * su (fun k => if s k = true ∧ isS w v N D k = false then v k else 0) n := by
      rw [← su_mul, ← su_mul]
      refine su_le fun k _ => ?_
      by_cases c : s k = true ∧ isS w v N D k = false
      · rw [if_pos c, if_pos c]
        have := of_decide_eq_false (show decide (v k * N < w k * D) = false from c.2)
        rw [Int.mul_comm D, Int.mul_comm N]
        omega
      · rw [if_neg c, if_neg c, Int.mul_zero, Int.mul_zero]
        exact Int.le_refl _
    generalize su (fun k => if s k = true ∧ isS w v N D k = false then w k else 0) n = Rw at *
    generalize su (fun k => if s k = true ∧ isS w v N D k = false then v k else 0) n = Rv at *
    rw [show dS v s' n = D - Rv by omega, show A - kS w s' n = N - Rw by omega, Int.mul_sub, Int.sub_mul, Int.mul_comm Rw D]
    omega
  have hno : ∀ k, k < n → s' k = false → w k * D ≤ v k * N := fun k hk hs => by
    rw [hn k] at hs
    cases h1 : s k with
    | false => exact ho k hk h1
    | true =>
      rw [h1, Bool.true_and] at hs
      have := of_decide_eq_false (show decide (v k * N < w k * D) = false from hs)
      omega
  refine ⟨fun h0 => ?_, fun hp k hk hs => ?_⟩
  · have ha := kS_all (w := w) (fun k hk => dS_zero hv h0 hk)
    rw [h0, Int.mul_zero, ha] at key
    have : 0 ≤ A - su w n := by
      by_cases c : 0 ≤ A - su w n
      · exact c
      · have := Int.mul_lt_mul_of_pos_right (show A - su w n < 0 by omega) hD
        rw [Int.zero_mul] at this
        omega
    omega
  · have h1 := Int.mul_le_mul_of_nonneg_right (hno k hk hs) (show 0 ≤ dS v s' n by omega)
    have h2 := Int.mul_le_mul_of_nonneg_left key (show 0 ≤ v k by have := hv k hk; omega)
    rw [← Int.mul_assoc, ← Int.mul_assoc] at h2
    have h3 : w k * dS v s' n * D ≤ v k * (A - kS w s' n) * D := by
      rw [show w k * dS v s' n * D = w k * D * dS v s' n by rw [Int.mul_right_comm]]
      omega
    exact Int.le_of_mul_le_mul_right h3 hD
/-- At the end: nobody is left. -/
theorem Left.none {A : Int} {w v : Nat → Int} {n : Nat} {s : Nat → Bool} (h : Left A w v n s) (hv : ∀ k, k < n → 1 ≤ v k) (h0 : dS v s n = 0) : Level A w v n 0 0 ∧ ∀ k, k < n → s k = isS w v 0 0 k :=
  ⟨⟨.inl ⟨h.zero h0, rfl, rfl⟩⟩, fun k hk => by
    rw [dS_zero hv h0 hk]
    unfold isS
    rw [Int.mul_zero, Int.mul_zero]
    rfl⟩
/-- At the end: all that are left are short. -/
theorem Left.some {A : Int} {w v : Nat → Int} {n : Nat} {s : Nat → Bool} (h : Left A w v n s) (hD : 0 < dS v s n) (hs : ∀ k, k < n → s k = true → isS w v (A - kS w s n) (dS v s n) k = true) :
    Level A w v n (A - kS w s n) (dS v s n) ∧ ∀ k, k < n → s k = isS w v (A - kS w s n) (dS v s n) k := by
  have he : ∀ k, k < n → s k = isS w v (A - kS w s n) (dS v s n) k := fun k hk => by
    cases h1 : s k with
    | true => exact (hs k hk h1).symm
    | false =>
      have := h.out hD k hk h1
      exact (decide_eq_false (by omega)).symm
  refine ⟨⟨.inr ⟨hD, ?_, ?_⟩⟩, he⟩
  · exact su_congr fun k hk => by rw [← he k hk]
  · have : kp w v (A - kS w s n) (dS v s n) n = kS w s n := su_congr fun k hk => by rw [← he k hk]
    rw [this]
/-- How many are left. -/
def cS (s : Nat → Bool) (n : Nat) : Nat := ((List.range n).filter s).length
theorem cS_succ (s : Nat → Bool) (n : Nat) : cS s (n + 1) = cS s n + (if s n = true then 1 else 0) := by
  unfold cS
  rw [List.range_succ, List.filter_append, List.length_append]
  cases h : s n <;> simp [h]
theorem cS_le {s t : Nat → Bool} : ∀ {n : Nat}, (∀ k, k < n → t k = true → s k = true) → cS t n ≤ cS s n
  | 0, _ => Nat.le_refl _
  | n + 1, h => by
    have h1 := cS_le (s := s) (t := t) (n := n) (fun k hk => h k (by omega))
    have h2 := h n (by omega)
    rw [cS_succ, cS_succ]
    cases ht : t n with
    | false => simp; omega
    | true => rw [h2 ht]; simp; omega
theorem cS_lt {s t : Nat → Bool} : ∀ {n : Nat}, (∀ k, k < n → t k = true → s k = true) → (∃ k, k < n ∧ s k = true ∧ t k = false) → cS t n < cS s n
  | 0, _, h => by obtain ⟨k, hk, _⟩ := h; omega
  | n + 1, h, hx => by
    obtain ⟨k, hk, hs, ht⟩ := hx
    rw [cS_succ, cS_succ]
    by_cases c : k = n
    · subst c
      have h1 := cS_le (s := s) (t := t) (n := k) (fun j hj => h j (by omega))
      rw [hs, ht]
      simp
      omega
    · have h1 := cS_lt (s := s) (t := t) (n := n) (fun j hj => h j (by omega)) ⟨k, by omega, hs, ht⟩
      have h2 := h n (by omega)
      cases ht : t n with
      | false => simp; omega
      | true => rw [h2 ht]; simp; omega
end Go.Proofs.Ytlpchakoikmbnaa
