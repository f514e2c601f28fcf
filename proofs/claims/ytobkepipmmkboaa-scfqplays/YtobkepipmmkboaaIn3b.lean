/- Slices of ints: append of whatever length. -/
import Derived.Test.YtobkepipmmkboaaIn2
import Derived.Deep.Upon
namespace Go.Proofs.Ytobkepipmmkboaa
open Go.RowKit Go.Maps

/-- An append whose run is known, at a plain region's list. -/
theorem wpList_append_eq {P : Program} {ops : Array Oper} {rest : List Oper} {o : Oper} {a : Act} {w : World} {Q : Exit → Act → World → Prop} (hgd : o.guard = none) (s x : Operand) (t u : TypeId)
    (ho : o.op = .call { callee := .builtin .append, args := #[s, x], argTypes := #[t, u] })
    {vs vx v : Value} {w' : World} (hs : a.eval s = vs) (hx : a.eval x = vx) (hrun : (Builtin.append_ #[t, u] o.type #[vs, vx]).run P w = .ok v w') (h : wpList P ops Q rest (a.put o.dst v) w') : wpList P ops Q (o :: rest) a w :=
  wpList_plain hgd fun _ hK => by
    unfold Oper.wp execOp
    simp only [ho, resolve, invoke, builtin, Sem.run_bind, Sem.run_pure, Result.andThen_ok, List.map_toArray, List.map_cons, List.map_nil, hs, hx, hrun]
    exact hK _ _ h

theorem fifo_app {B : Nat} {w : World} {A As : Option Addr} {xs ys : List Int} {cap : Nat} (h : Fifo B w A xs cap) (hy : IntsIn w As ys) (capy : Nat) (hB : B ≤ w.heap.size) (hn : (xs.length + ys.length) * 8 ≤ 140737488355328) :
    ∃ A' cap' W, (∀ ty, (Builtin.append_ #[22, 22] ty #[.slice A xs.length cap, .slice As ys.length capy]).run Try.prog w = .ok (.slice A' (xs.length + ys.length) cap') W) ∧
      Fifo B W A' (xs ++ ys) cap' ∧ Chg (Ab A) w W ∧ ∀ g, Ab A' g → Ab A g ∨ w.heap.size ≤ g := by
  by_cases h0 : 0 < ys.length
  · exact fifo_append h hy capy hB hn h0
  · obtain rfl : ys = [] := List.eq_nil_of_length_eq_zero (by omega)
    obtain ⟨i, hi, hz0, hz1, hz2⟩ := info_parts info_i64
    rw [List.append_nil]
    refine ⟨A, cap, w, fun ty => ?_, h, Chg.refl _ _, fun g hg => .inl hg⟩
    cases As with
    | none => exact run_append_nothing w _ _ ty _ i under_ints hi A xs.length cap h.le _ (Src.ofNil w under_ints capy)
    | some a => exact run_append_nothing w _ _ ty _ i under_ints hi A xs.length cap h.le _ (Src.ofSlice w under_ints a 0 capy [] (by simp) (by simp) (by simp))

theorem Fifo.empty (w : World) (k : Nat) {B : Nat} (h : B ≤ k) (hk : k < w.heap.size) : Fifo B w (some ⟨k, 0, none⟩) [] 0 := ⟨Nat.le_refl _, Nat.zero_le _, fun h => by omega, fun g hg => by obtain ⟨a, e, rfl⟩ := hg; injection e with e; subst e; exact ⟨h, hk⟩⟩

end Go.Proofs.Ytobkepipmmkboaa
