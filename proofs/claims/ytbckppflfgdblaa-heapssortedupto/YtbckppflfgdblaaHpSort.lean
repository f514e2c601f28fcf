/- Pops behind a run give what a drain gives; what is drained is of no two alike: plain facts. -/
import Derived.Test.YtbckppflfgdblaaHpDel
import Derived.Lib.SlicesCompact
namespace Go.Proofs.Ytbckppflfgdblaa

def pops (n : Nat) : List Op4 := List.replicate n ⟨2, 0, 0, 0⟩
theorem pops_length (n : Nat) : (pops n).length = n := by simp [pops]
theorem pops_succ (n : Nat) : pops (n + 1) = pops n ++ [⟨2, 0, 0, 0⟩] := by unfold pops; rw [List.replicate_succ']
theorem pops_ids {n : Nat} : ∀ o ∈ pops n, I64 o.id := by
  intro o ho
  rw [List.eq_of_mem_replicate ho]
  exact I64.of (by decide) (by decide)
theorem pops_run {n : Nat} {M : Held} : (run ⟨n, M⟩ (pops n)).2.1 = drainF n M ∧ (run ⟨n, M⟩ (pops n)).2.2.n = 0 := by
  induction n generalizing M with
  | zero => exact ⟨rfl, rfl⟩
  | succ n ih =>
    have hs : step ⟨n + 1, M⟩ ⟨2, 0, 0, 0⟩ = (0, [least M], ⟨n, delM M (least M)⟩) := by simp [step]
    have e : pops (n + 1) = ⟨2, 0, 0, 0⟩ :: pops n := rfl
    rw [e, drainF_succ]
    simp only [run, hs]
    obtain ⟨h1, h2⟩ := ih (M := delM M (least M))
    rw [h1]
    exact ⟨rfl, h2⟩
theorem sorted_spec (os : List Op4) : (run q0 (os ++ pops (run q0 os).2.2.n)).2.1 = (run q0 os).2.1 ++ drainF (run q0 os).2.2.n (run q0 os).2.2.M ∧ (run q0 (os ++ pops (run q0 os).2.2.n)).2.2.n = 0 := by
  rw [run_append]
  obtain ⟨h1, h2⟩ := pops_run (n := (run q0 os).2.2.n) (M := (run q0 os).2.2.M)
  exact ⟨by rw [← h1], h2⟩

theorem drain_apart {n : Nat} {M : Held} (h : Good ⟨n, M⟩) : (drainF n M).Pairwise (fun a b => a ≠ b) := by
  induction n generalizing M with
  | zero => exact List.Pairwise.nil
  | succ n ih =>
    rw [drainF_succ]
    refine List.pairwise_cons.2 ⟨fun x hx e => ?_, ih h.pop⟩
    rw [drain_mem h.pop, ← e] at hx
    simp [delM] at hx

theorem compact_apart {ys : List Int} (hd : ys.Pairwise (fun a b => a ≠ b)) : Lib.compact ys = ys := by
  refine Lib.compact_all ys fun j hj => ?_
  cases j with
  | zero => exact Lib.keeps_lt_one _ 0 (by omega)
  | succ j =>
    refine Lib.keeps_pos ?_
    have h1 := List.pairwise_iff_getElem.1 hd j (j + 1) (by omega) hj (by omega)
    rw [Nat.add_sub_cancel, getElem!_pos ys.toArray (j + 1) (by simpa using hj), getElem!_pos ys.toArray j (by simp; omega)]
    exact fun e => h1 (by simpa using e.symm)
/-- Sorted, and no two alike: nothing goes. -/
theorem compact_sorted {xs : List Int} (h : xs.Pairwise (fun a b => a ≠ b)) : (Lib.compact (xs.mergeSort fun x y => decide (x ≤ y))).length = xs.length := by
  have hp := List.mergeSort_perm xs (fun x y => decide (x ≤ y))
  rw [compact_apart ((hp.pairwise_iff (fun e e' => e e'.symm)).2 h), hp.length_eq]

end Go.Proofs.Ytbckppflfgdblaa
