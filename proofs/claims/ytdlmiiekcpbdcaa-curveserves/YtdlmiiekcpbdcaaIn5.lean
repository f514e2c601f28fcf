/- Slices of ints that are one's own, from their block's beginning: append of one number. -/
import Derived.Test.YtdlmiiekcpbdcaaIn2
namespace Go.Proofs.Ytdlmiiekcpbdcaa
open Go.RowKit Go.Maps

def OwnI (B : Nat) (w : World) (v : Value) (bs : List Int) : Prop := w.ownsRow B 3 1 v bs.length (i64s bs)
theorem OwnI.nil (B : Nat) (w : World) : OwnI B w (.slice none 0 0) [] := ⟨rfl, .inl ⟨rfl, rfl⟩⟩
theorem OwnI.form {B : Nat} {w : World} {v : Value} {bs : List Int} (h : OwnI B w v bs) (hl : bs.length * 8 ≤ 281474976710656) : ∃ A cap, v = .slice A bs.length cap ∧ IntsIn w A bs := by
  rcases h.2 with ⟨rfl, h0⟩ | ⟨g, cap, cur, rfl, hB, hg, hn, _, hs, ht⟩
  · exact ⟨none, 0, by rw [h0], fun h => by omega, hl⟩
  · refine ⟨_, cap, rfl, fun _ => ⟨g, 0, rfl, (World.ownsRow.lt h g rfl).2, fun j x hx => ?_⟩, hl⟩
    have hj : j < bs.length := (List.getElem?_eq_some_iff.1 hx).1
    rw [Nat.zero_add, cell_of_row w g _ cur _ _ hg, ← i64s_at hx, ← ht, List.getElem?_take_of_lt (by omega), Array.getElem?_toList]
theorem OwnI.block {B : Nat} {w w' : World} {v : Value} {bs : List Int} (h : OwnI B w v bs) (hb : ∀ k, B ≤ k → k < w.heap.size → w'.heap[k]? = w.heap[k]?) : OwnI B w' v bs := by
  refine ⟨h.1, ?_⟩
  rcases h.2 with hn | ⟨g, cap, cur, rfl, hB, hgg, rest⟩
  · exact .inl hn
  · exact .inr ⟨g, cap, cur, rfl, hB, (hb g hB (World.ownsRow.lt h g rfl).2).trans hgg, rest⟩
theorem OwnI.below {B : Nat} {w w' : World} {v : Value} {bs : List Int} (h : OwnI B w v bs) (hb : Below w.heap.size w w') : OwnI B w' v bs := h.block fun k _ hk => hb.block k hk
theorem info_parts3 {e : TypeId} {z : Value} {s y : Nat} (h : (Try.prog.info? e).map (fun i => (i.zero, i.size, i.bytes)) = some (some z, s, y)) : ∃ i, Try.prog.info? e = some i ∧ i.zero = some z ∧ i.size = s ∧ i.bytes = y := by
  obtain ⟨i, h1, h2⟩ := Option.map_eq_some_iff.1 h
  simp only [Prod.mk.injEq] at h2
  exact ⟨i, h1, h2⟩
/-- An append of one number in a new block. -/
theorem ints_append {B : Nat} {w : World} {v : Value} {us : List Int} (h : OwnI B w v us) (u : Int) (hB : B ≤ w.heap.size) (hn : (us.length + 1) * 8 ≤ 140737488355328) :
    ∃ v' W, (∀ ty, (Builtin.append_ #[35, 35] ty #[v, .slice (some ⟨w.heap.size, 0, none⟩) 1 1]).run Try.prog (w.alloc (.cells #[.int .i64 u] 3)) = .ok v' W) ∧ OwnI B W v' (us ++ [u]) ∧
      (∀ k, k < B → W.heap[k]? = w.heap[k]?) ∧ (∀ k, k < w.heap.size → (∀ r, v.ownBlock = some r → k ≠ r) → W.heap[k]? = w.heap[k]?) ∧ w.heap.size ≤ W.heap.size ∧ W.os = w.os ∧ W.tape = w.tape ∧ W.output = w.output := by
  obtain ⟨i0, hi, hz0, hz1, hz2⟩ := info_parts3 info_i64
  have bo : Below w.heap.size w (w.alloc (.cells #[.int .i64 u] 3)) := (Below.refl _ _).alloc (Nat.le_refl _) _
  have hsz : (w.alloc (.cells #[.int .i64 u] 3)).heap.size = w.heap.size + 1 := by simp
  have key := fun ty => run_append_own_at (P := Try.prog) (w.alloc (.cells #[.int .i64 u] 3)) B 35 ty 3 i0 _ 1 8 under_ints hi hz0 hz1 hz2 rfl (by decide) v us.length (i64s us) (h.below bo)
    ⟨w.heap.size, 0, none⟩ 1 1 [.int .i64 u] rfl (fun j x hx => by
      cases j with
      | zero => simp only [List.getElem?_cons_zero, Option.some.injEq] at hx; subst hx; exact cell_of_row _ _ 0 _ _ _ (heap_alloc_new w _)
      | succ j => simp at hx) (fun x hx => by simp only [List.mem_singleton] at hx; subst hx; rfl) (by simp only [maxLen]; omega) (by omega) (by omega)
  obtain ⟨v', W, hr, h2, h3, _, _⟩ := key 0
  refine ⟨v', W, fun ty => hr, ?_, fun k hk => ?_, fun k hk hne => ?_, ?_, h3.os, h3.tape, h3.output⟩
  · unfold OwnI
    rw [i64s_append, List.length_append]
    exact h2
  · have hk2 : k < w.heap.size := by omega
    exact (h3.block k (by omega) (fun e => by
      have := (World.ownsRow.lt (h.below bo) k e.symm).1
      omega)).trans (bo.block k hk2)
  · exact (h3.block k (by omega) (fun e => hne k e.symm rfl)).trans (bo.block k hk)
  · have := h3.size
    omega
theorem step_append_eq {P : Program} {ops : Array Oper} {o : Oper} {a : Act} {w : World} {K : Act → World → Prop} {Q : Exit → Act → World → Prop} {E : Prop}
    (hg : o.guard = none) (s x : Operand) (t : TypeId) (hop : o.op = Op.call { callee := Callee.builtin Builtin.append, args := #[s, x], argTypes := #[t, t] })
    {vs vx v : Value} {w' : World} (hs : a.eval s = vs) (hx : a.eval x = vx) (hrun : (Builtin.append_ #[t, t] o.type #[vs, vx]).run P w = .ok v w') (hK : K (a.put o.dst v) w') :
    if Region.wanted o (yielded ops a.tmps) = true then Oper.wp P o a w K Q else E := by
  have hw : Region.wanted o (yielded ops a.tmps) = true := by simp [Region.wanted, hg]
  rw [if_pos hw]
  unfold Oper.wp execOp
  simp only [hop, resolve, invoke, builtin, Sem.run_bind, Sem.run_pure, Result.andThen_ok, List.map_toArray, List.map_cons, List.map_nil, hs, hx, hrun]
  exact hK
end Go.Proofs.Ytdlmiiekcpbdcaa
