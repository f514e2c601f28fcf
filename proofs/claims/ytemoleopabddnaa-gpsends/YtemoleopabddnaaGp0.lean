/- Package gps, plain: which numbers are right. -/
import Derived.Test.YtemoleopabddnaaGpMath
namespace Go.Proofs.Ytemoleopabddnaa

def am (n : Int) : Bool := decide (n < 0) || decide (1048576 < n)
def wg (n : Int) : Bool := decide (n < 1) || decide (1000 < n)
theorem am_false {n : Int} : am n = false ↔ 0 ≤ n ∧ n ≤ 1048576 := by
  unfold am
  rw [Bool.or_eq_false_iff, decide_eq_false_iff_not, decide_eq_false_iff_not]
  omega
theorem wg_false {n : Int} : wg n = false ↔ 1 ≤ n ∧ n ≤ 1000 := by
  unfold wg
  rw [Bool.or_eq_false_iff, decide_eq_false_iff_not, decide_eq_false_iff_not]
  omega
/-- What Wrong says. -/
def wrongL (xs ys : List Int) : Int := if xs.length ≠ ys.length then 1 else if (decide (16 < (xs.length : Int)) || (xs.any am || ys.any wg)) = true then 2 else 0
/-- The numbers are right. -/
structure Right (xs ys : List Int) : Prop where
  len : ys.length = xs.length
  few : xs.length ≤ 16
  wants : ∀ x ∈ xs, 0 ≤ x ∧ x ≤ 1048576
  weights : ∀ y ∈ ys, 1 ≤ y ∧ y ≤ 1000
theorem wrongL_way (xs ys : List Int) : (wrongL xs ys = 1 ∧ xs.length ≠ ys.length) ∨ (wrongL xs ys = 2 ∧ xs.length = ys.length) ∨ (wrongL xs ys = 0 ∧ Right xs ys) := by
  unfold wrongL
  by_cases c : xs.length ≠ ys.length
  · rw [if_pos c]
    exact .inl ⟨rfl, c⟩
  · rw [if_neg c]
    cases h : (decide (16 < (xs.length : Int)) || (xs.any am || ys.any wg)) with
    | true => exact .inr (.inl ⟨rfl, by omega⟩)
    | false =>
      rw [Bool.or_eq_false_iff, Bool.or_eq_false_iff, decide_eq_false_iff_not, List.any_eq_false, List.any_eq_false] at h
      obtain ⟨h2, h3, h4⟩ := h
      exact .inr (.inr ⟨rfl, by omega, by omega, fun x hx => am_false.1 (by simpa using h3 x hx), fun y hy => wg_false.1 (by simpa using h4 y hy)⟩)
/-- Lists as functions. -/
def fn (xs : List Int) (k : Nat) : Int := xs.getD k 0
theorem fn_at {xs : List Int} {k : Nat} {x : Int} (h : xs[k]? = some x) : fn xs k = x := by
  unfold fn
  rw [List.getD_eq_getElem?_getD, h]
  rfl
theorem at_fn {xs : List Int} {k : Nat} (h : k < xs.length) : xs[k]? = some (fn xs k) := by
  unfold fn
  rw [List.getD_eq_getElem?_getD, List.getElem?_eq_getElem h]
  rfl
namespace Right
variable {xs ys : List Int} (h : Right xs ys)
include h
theorem want {k : Nat} (hk : k < xs.length) : 0 ≤ fn xs k ∧ fn xs k ≤ 1048576 := h.wants _ (List.mem_of_getElem? (at_fn hk))
theorem weight {k : Nat} (hk : k < xs.length) : 1 ≤ fn ys k ∧ fn ys k ≤ 1000 := h.weights _ (List.mem_of_getElem? (at_fn (by rw [h.len]; exact hk)))
theorem want0 (k : Nat) : 0 ≤ fn xs k ∧ fn xs k ≤ 1048576 := by
  by_cases c : k < xs.length
  · exact h.want c
  · unfold fn
    rw [List.getD_eq_getElem?_getD, List.getElem?_eq_none (by omega)]
    decide
theorem weight0 (k : Nat) : 0 ≤ fn ys k ∧ fn ys k ≤ 1000 := by
  by_cases c : k < xs.length
  · have := h.weight c
    omega
  · unfold fn
    rw [List.getD_eq_getElem?_getD, List.getElem?_eq_none (by have := h.len; omega)]
    decide
end Right
end Go.Proofs.Ytemoleopabddnaa
