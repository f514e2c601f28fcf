/- What a removal leaves of the drain: plain facts. -/
import Derived.Test.YtbckppflfgdblaaHpGood
namespace Go.Proofs.Ytbckppflfgdblaa

theorem drainF_succ (n : Nat) (M : Held) : drainF (n + 1) M = least M :: drainF n (delM M (least M)) := rfl
theorem good_zero {M : Held} (h : Good ⟨0, M⟩) (x : Int) : M x = none := by
  obtain ⟨f, hf⟩ := h
  cases hx : M x with
  | none => rfl
  | some k => obtain ⟨j, hj, _⟩ := hf.all x k hx; exact absurd hj (by simp)
theorem drain_mem {n : Nat} {M : Held} (h : Good ⟨n, M⟩) (x : Int) : x ∈ drainF n M ↔ (M x).isSome = true := by
  induction n generalizing M with
  | zero => rw [good_zero h x]; simp [drainF]
  | succ n ih =>
    have hl : (M (least M)).isSome = true := by obtain ⟨f, hf⟩ := h; exact least_some hf.first
    rw [drainF, List.mem_cons, ih h.pop]
    unfold delM
    by_cases e : x = least M
    · subst e; simp [hl]
    · simp [e]
theorem Least.del {M : Held} {x y : Int} (h : Least M y) (hne : y ≠ x) : Least (delM M x) y := by
  obtain ⟨k, hk, hf⟩ := h
  refine ⟨k, by unfold delM; rw [if_neg hne]; exact hk, fun z l hz => hf z l ?_⟩
  unfold delM at hz
  split at hz
  · cases hz
  · exact hz
theorem Good.del {n : Nat} {M : Held} (h : Good ⟨n + 1, M⟩) {x : Int} (hx : (M x).isSome = true) : Good ⟨n, delM M x⟩ := by
  obtain ⟨f, hf⟩ := h; exact hf.drop hx
theorem filter_not_mem {xs : List Int} {x : Int} (h : x ∉ xs) : xs.filter (fun y => !(y == x)) = xs := by
  rw [List.filter_eq_self]
  intro y hy
  have : y ≠ x := fun e => h (by rw [← e]; exact hy)
  simpa using this
theorem drain_del {n : Nat} {M : Held} (h : Good ⟨n + 1, M⟩) {x : Int} (hx : (M x).isSome = true) : drainF n (delM M x) = (drainF (n + 1) M).filter (fun y => !(y == x)) := by
  induction n generalizing M with
  | zero =>
    rw [drainF, drainF, drainF]
    have hm := (drain_mem h x).2 hx
    rw [drainF, drainF, List.mem_singleton] at hm
    rw [← hm]; simp
  | succ n ih =>
    have hl : Least M (least M) := by obtain ⟨f, hf⟩ := h; exact hf.first
    by_cases e : x = least M
    · subst e
      have hn : least M ∉ drainF (n + 1) (delM M (least M)) := by
        rw [drain_mem h.pop]; simp [delM]
      rw [drainF_succ (n + 1) M, List.filter_cons_of_neg (by simp), filter_not_mem hn]
    · have hx2 : (delM M (least M) x).isSome = true := by unfold delM; rw [if_neg e]; exact hx
      have e2 : least (delM M x) = least M := least_eq (hl.del (fun e' => e e'.symm))
      rw [drainF_succ n (delM M x), e2, delM_delM, drainF_succ (n + 1) M, List.filter_cons_of_pos (by simp; exact fun e' => e e'.symm), ih h.pop hx2]

/-- HeapsRemove, plainly. -/
theorem remove_spec {os : List Op4} {n : Nat} (hn : os.length = n) (x : Int) :
    (((run q0 (os ++ [⟨3, x, 0, 0⟩])).1.getD n 0 == 0) = decide (x ∈ drainF (run q0 os).2.2.n (run q0 os).2.2.M)) ∧ (run q0 (os ++ [⟨3, x, 0, 0⟩])).2.1 = (run q0 os).2.1 ∧
    drainF (run q0 (os ++ [⟨3, x, 0, 0⟩])).2.2.n (run q0 (os ++ [⟨3, x, 0, 0⟩])).2.2.M = (drainF (run q0 os).2.2.n (run q0 os).2.2.M).filter (fun y => !(y == x)) := by
  subst hn
  have hg := good_q0.run os
  have hl := run_length q0 os
  rw [run_snoc]
  simp only [List.getD_eq_getElem?_getD]
  rw [List.getElem?_append_right (by omega), hl, Nat.sub_self]
  have hm := drain_mem (n := (run q0 os).2.2.n) (M := (run q0 os).2.2.M) hg x
  cases hM : ((run q0 os).2.2.M x).isSome with
  | false =>
    have hs : step (run q0 os).2.2 ⟨3, x, 0, 0⟩ = (3, [], (run q0 os).2.2) := by simp [step, hM]
    rw [hM] at hm
    have hx : x ∉ drainF (run q0 os).2.2.n (run q0 os).2.2.M := fun h => by have := hm.1 h; cases this
    rw [hs]
    exact ⟨by simp [hx], by simp, (filter_not_mem hx).symm⟩
  | true =>
    have hs : step (run q0 os).2.2 ⟨3, x, 0, 0⟩ = (0, [], ⟨(run q0 os).2.2.n - 1, delM (run q0 os).2.2.M x⟩) := by simp [step, hM]
    have hp := hg.pos hM
    have hx : x ∈ drainF (run q0 os).2.2.n (run q0 os).2.2.M := hm.2 hM
    rw [hs]
    refine ⟨by simp [hx], by simp, ?_⟩
    obtain ⟨k, hk⟩ : ∃ k, (run q0 os).2.2.n = k + 1 := ⟨(run q0 os).2.2.n - 1, by omega⟩
    have hg2 : Good ⟨k + 1, (run q0 os).2.2.M⟩ := by rw [← hk]; exact hg
    rw [hk]
    exact drain_del hg2 hM

end Go.Proofs.Ytbckppflfgdblaa
