/- A queue that operations have made holds as many items as it says; plain facts on drains. -/
import Derived.Test.YtbckppflfgdblaaHp13
namespace Go.Proofs.Ytbckppflfgdblaa

def Good (s : Qst) : Prop := ∃ f, Rep f s.n s.M
theorem good_q0 : Good q0 := ⟨fun _ => ⟨0, 0, 0⟩, fun j hj => absurd hj (by simp [q0]), fun x k hx => (by cases hx), fun i j hi => absurd hi (by simp [q0])⟩

theorem exists_first (f : Nat → It) (n : Nat) : ∃ i, i < n + 1 ∧ ∀ j, j < n + 1 → ¬ Bef (f j) (f i) := by
  induction n with
  | zero => exact ⟨0, by omega, fun j hj => (by rw [show j = 0 from by omega]; exact Bef.irrefl _)⟩
  | succ n ih =>
    obtain ⟨i, hi, h⟩ := ih
    by_cases hb : Bef (f (n + 1)) (f i)
    · refine ⟨n + 1, by omega, fun j hj => ?_⟩
      by_cases e : j = n + 1
      · rw [e]; exact Bef.irrefl _
      · exact fun hx => h j (by omega) (hx.trans hb)
    · refine ⟨i, by omega, fun j hj => ?_⟩
      by_cases e : j = n + 1
      · rw [e]; exact hb
      · exact h j (by omega)
theorem Rep.first {f : Nat → It} {n : Nat} {M : Held} (h : Rep f (n + 1) M) : Least M (least M) := by
  obtain ⟨i, hi, hf⟩ := exists_first f n
  have hl : Least M (f i).id := by
    refine ⟨(f i).key, h.held i hi, fun y l hy => ?_⟩
    obtain ⟨j, hj, e⟩ := h.all y l hy
    have h1 := h.held j hj
    rw [e, hy] at h1
    injection h1 with h1
    have e1 : (⟨y, l.1, l.2⟩ : It) = f j := It.same e.symm (by rw [h1]; rfl) (by rw [h1]; rfl)
    have e2 : (⟨(f i).id, (f i).key.1, (f i).key.2⟩ : It) = f i := It.same rfl rfl rfl
    rw [e1, e2]
    exact hf j hj
  rw [least_eq hl]; exact hl
theorem Rep.drop {f : Nat → It} {n : Nat} {M : Held} (h : Rep f (n + 1) M) {x : Int} (hx : (M x).isSome = true) : ∃ f', Rep f' n (delM M x) := by
  cases hM : M x with
  | none => rw [hM] at hx; cases hx
  | some k =>
    obtain ⟨j, hj, e⟩ := h.all x k hM
    have := (h.swp hj (show n < n + 1 by omega)).pop
    rw [swp_r, e] at this
    exact ⟨_, this⟩
theorem least_some {M : Held} {x : Int} (h : Least M x) : (M x).isSome = true := by obtain ⟨k, h, _⟩ := h; rw [h]; rfl
theorem Good.pop {n : Nat} {M : Held} (h : Good ⟨n + 1, M⟩) : Good ⟨n, delM M (least M)⟩ := by
  obtain ⟨f, hf⟩ := h
  exact hf.drop (least_some hf.first)
theorem Good.pos {s : Qst} (h : Good s) {x : Int} (hx : (s.M x).isSome = true) : 0 < s.n := by
  obtain ⟨f, hf⟩ := h; exact rep_size hf hx
theorem Good.step {s : Qst} (h : Good s) (o : Op4) : Good (step s o).2.2 := by
  unfold _root_.Go.Proofs.Ytbckppflfgdblaa.step
  split
  · split
    · exact h
    · rename_i hM
      obtain ⟨f, hf⟩ := h
      exact ⟨_, hf.push1 (x := ⟨o.id, o.hi, o.lo⟩) (by simpa using hM)⟩
  split
  · split
    · exact h
    · rename_i hn
      obtain ⟨n, M⟩ := s
      cases n with
      | zero => exact absurd rfl hn
      | succ n => exact h.pop
  split
  · split
    · rename_i hM
      have hp := h.pos hM
      obtain ⟨n, M⟩ := s
      cases n with
      | zero => exact absurd hp (by simp)
      | succ n => obtain ⟨f, hf⟩ := h; exact hf.drop hM
    · exact h
  split
  · split
    · rename_i hM
      obtain ⟨f, hf⟩ := h
      cases hMx : s.M o.id with
      | none => rw [hMx] at hM; cases hM
      | some k =>
        obtain ⟨j, hj, e⟩ := hf.all _ k hMx
        have := hf.setKey hj o.hi o.lo
        rw [e] at this
        exact ⟨_, this⟩
    · exact h
  · exact h
theorem Good.run {s : Qst} (h : Good s) (os : List Op4) : Good (run s os).2.2 := by
  induction os generalizing s with
  | nil => exact h
  | cons o os ih => exact ih (h.step o)

/-! ### updates -/
theorem updM_delM (M : Held) (x : Int) (k : Int × Int) : updM (delM M x) x k = updM M x k := by
  funext y; unfold updM delM; split <;> simp_all
theorem delM_delM (M : Held) (x y : Int) : delM (delM M x) y = delM (delM M y) x := by
  funext z; unfold delM; (repeat' split) <;> simp_all
/-- A new key is as a removal and an insertion. -/
theorem update_same {s : Qst} (h : Good s) {x hi lo : Int} (hM : (s.M x).isSome = true) :
    step s ⟨4, x, hi, lo⟩ = (0, [], ⟨s.n, updM s.M x (hi, lo)⟩) ∧ step s ⟨3, x, 0, 0⟩ = (0, [], ⟨s.n - 1, delM s.M x⟩) ∧ step ⟨s.n - 1, delM s.M x⟩ ⟨1, x, hi, lo⟩ = (0, [], ⟨s.n, updM s.M x (hi, lo)⟩) := by
  have hp := h.pos hM
  refine ⟨by simp [step, hM], by simp [step, hM], ?_⟩
  have hd : delM s.M x x = none := by simp [delM]
  simp only [step, if_true, hd, Option.isSome_none, Bool.false_eq_true, if_false, updM_delM, Nat.sub_add_cancel hp]
theorem update_not {s : Qst} {x hi lo : Int} (hM : (s.M x).isSome = false) : step s ⟨4, x, hi, lo⟩ = (3, [], s) ∧ step s ⟨3, x, 0, 0⟩ = (3, [], s) := by
  simp [step, hM]

end Go.Proofs.Ytbckppflfgdblaa
