/- Package drr, plain: credits on the way; serving a flow is one step. -/
import Derived.Test.YtgphbplmkegdeaaDr0
namespace Go.Proofs.Ytgphbplmkegdeaa

section
variable (xs : List Int) (fs : List (List Int)) (ms : List Int)
/-- The credits after r rounds and k flows. -/
def aC (r k : Nat) : List Int := (List.range xs.length).map fun j => (aD xs fs ms r k j).2.2
theorem aC_length (r k : Nat) : (aC xs fs ms r k).length = xs.length := by simp [aC]
theorem aC_fn (r k : Nat) {j : Nat} (hj : j < xs.length) : fn (aC xs fs ms r k) j = (aD xs fs ms r k j).2.2 := fn_at (by simp [aC, hj])
theorem aC_start (r : Nat) : aC xs fs ms r 0 = outC xs fs ms r := List.map_congr_left fun j _ => by rw [aD_start]
theorem aC_end (r : Nat) : aC xs fs ms r xs.length = aC xs fs ms (r + 1) 0 := List.map_congr_left fun j hj => by rw [aD_end _ _ _ _ _ (List.mem_range.1 hj)]
theorem aD_here (r k : Nat) : aD xs fs ms r k k = fD xs fs ms r k := if_neg (by omega)
end
/-- Serving a flow is one step. -/
theorem serve_step {xs : List Int} {fs : List (List Int)} {ms : List Int} {r k : Nat} (hk : k < xs.length) {done rest : List Int} {c : Int} (h : drv ((fD xs fs ms r k).2.2 + fn xs k) (fD xs fs ms r k).2.1 = (done, rest, c)) :
    (aS xs fs ms r k ++ done.map fun b => (k, b)) = aS xs fs ms r (k + 1) ∧ (∀ j, (if j = k then rest else (aD xs fs ms r k j).2.1) = (aD xs fs ms r (k + 1) j).2.1) ∧ (aC xs fs ms r k).set k (if rest = [] then 0 else c) = aC xs fs ms r (k + 1) := by
  obtain ⟨h1, h2⟩ := fD_turn h
  refine ⟨by rw [aS_succ, h1], fun j => ?_, ?_⟩
  · unfold aD
    by_cases e : j = k
    · subst e
      rw [if_pos rfl, if_pos (by omega), h2]
    · rw [if_neg e]
      by_cases d : j < k
      · rw [if_pos d, if_pos (by omega)]
      · rw [if_neg d, if_neg (by omega)]
  · apply List.ext_getElem?
    intro j
    rw [List.getElem?_set, aC_length]
    unfold aC
    by_cases e : k = j
    · subst e
      rw [if_pos rfl, if_pos hk, List.getElem?_map, List.getElem?_range hk]
      show some (if rest = [] then 0 else c) = some (aD xs fs ms r (k + 1) k).2.2
      rw [show aD xs fs ms r (k + 1) k = fD xs fs ms (r + 1) k from if_pos (by omega), h2]
    · rw [if_neg e, List.getElem?_map, List.getElem?_map]
      cases hj : (List.range xs.length)[j]? with
      | none => rfl
      | some i =>
        have : i = j := by
          obtain ⟨hl, hi⟩ := List.getElem?_eq_some_iff.1 hj
          rw [List.getElem_range] at hi
          exact hi.symm
        subst this
        have key : aD xs fs ms r k i = aD xs fs ms r (k + 1) i := by
          unfold aD
          by_cases d : i < k
          · rw [if_pos d, if_pos (by omega)]
          · rw [if_neg d, if_neg (by omega)]
        show some (aD xs fs ms r k i).2.2 = some (aD xs fs ms r (k + 1) i).2.2
        rw [key]
end Go.Proofs.Ytgphbplmkegdeaa
