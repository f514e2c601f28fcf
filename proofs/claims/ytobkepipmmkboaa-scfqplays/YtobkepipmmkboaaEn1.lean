/- Slices of numbers of one's own, whatever their type's name (T: the number's type, TS: its slice), as []api.Errno: append of one. -/
import Derived.Test.YtobkepipmmkboaaIn3b
namespace Go.Proofs.Ytobkepipmmkboaa
open Go.RowKit Go.Maps

/-- What must be known of the types. -/
structure T1 (T TS : TypeId) : Prop where
  under : Try.prog.underlying TS = some (.slice T)
  info : ∃ i, Try.prog.info? T = some i ∧ i.zero = some (.int .i64 0) ∧ i.size = 1 ∧ i.bytes = 8
def OwnE (T : TypeId) (B : Nat) (w : World) (v : Value) (bs : List Int) : Prop := w.ownsRow B T 1 v bs.length (i64s bs)
theorem OwnE.nil (T : TypeId) (B : Nat) (w : World) : OwnE T B w (.slice none 0 0) [] := ⟨rfl, .inl ⟨rfl, rfl⟩⟩
theorem OwnE.form {T : TypeId} {B : Nat} {w : World} {v : Value} {bs : List Int} (h : OwnE T B w v bs) (hl : bs.length * 8 ≤ 281474976710656) : ∃ A cap, v = .slice A bs.length cap ∧ IntsIn w A bs := by
  rcases h.2 with ⟨rfl, h0⟩ | ⟨g, cap, cur, rfl, hB, hg, hn, _, hs, ht⟩
  · exact ⟨none, 0, by rw [h0], fun h => by omega, hl⟩
  · refine ⟨_, cap, rfl, fun _ => ⟨g, 0, rfl, (World.ownsRow.lt h g rfl).2, fun j x hx => ?_⟩, hl⟩
    have hj : j < bs.length := (List.getElem?_eq_some_iff.1 hx).1
    rw [Nat.zero_add, cell_of_row w g _ cur _ _ hg, ← i64s_at hx, ← ht, List.getElem?_take_of_lt (by omega), Array.getElem?_toList]
theorem OwnE.block {T : TypeId} {B : Nat} {w w' : World} {v : Value} {bs : List Int} (h : OwnE T B w v bs) (hb : ∀ k, B ≤ k → k < w.heap.size → w'.heap[k]? = w.heap[k]?) : OwnE T B w' v bs := by
  refine ⟨h.1, ?_⟩
  rcases h.2 with hn | ⟨g, cap, cur, rfl, hB, hgg, rest⟩
  · exact .inl hn
  · exact .inr ⟨g, cap, cur, rfl, hB, (hb g hB (World.ownsRow.lt h g rfl).2).trans hgg, rest⟩
theorem OwnE.below {T : TypeId} {B : Nat} {w w' : World} {v : Value} {bs : List Int} (h : OwnE T B w v bs) (hb : Below w.heap.size w w') : OwnE T B w' v bs := h.block fun k _ hk => hb.block k hk
/-- An append of one number in a new block: what lies below B stays, and all but the slice's own block. -/
theorem errs_append {T TS : TypeId} (hT : T1 T TS) {B : Nat} {w : World} {v : Value} {us : List Int} (h : OwnE T B w v us) (u : Int) (hB : B ≤ w.heap.size) (hn : us.length ≤ 100000) :
    ∃ v' W, (∀ ty, (Builtin.append_ #[TS, TS] ty #[v, .slice (some ⟨w.heap.size, 0, none⟩) 1 1]).run Try.prog (w.alloc (.cells #[.int .i64 u] T)) = .ok v' W) ∧ OwnE T B W v' (us ++ [u]) ∧ Below B w W ∧
      (∀ k, k < w.heap.size → (∀ r, v.ownBlock = some r → k ≠ r) → W.heap[k]? = w.heap[k]?) ∧ w.heap.size ≤ W.heap.size ∧ ∀ k, v'.ownBlock = some k → v.ownBlock = some k ∨ w.heap.size ≤ k := by
  obtain ⟨i0, hi, hz0, hz1, hz2⟩ := hT.info
  have bo : Below w.heap.size w (w.alloc (.cells #[.int .i64 u] T)) := (Below.refl _ _).alloc (Nat.le_refl _) _
  have hsz : (w.alloc (.cells #[.int .i64 u] T)).heap.size = w.heap.size + 1 := by simp
  have key := fun ty => run_append_own_at (P := Try.prog) (w.alloc (.cells #[.int .i64 u] T)) B TS ty T i0 _ 1 8 hT.under hi hz0 hz1 hz2 rfl (by decide) v us.length (i64s us) (h.below bo)
    ⟨w.heap.size, 0, none⟩ 1 1 [.int .i64 u] rfl (fun j x hx => by
      cases j with
      | zero => simp only [List.getElem?_cons_zero, Option.some.injEq] at hx; subst hx; exact cell_of_row _ _ 0 _ _ _ (heap_alloc_new w _)
      | succ j => simp at hx) (fun x hx => by simp only [List.mem_singleton] at hx; subst hx; rfl) (by simp only [maxLen]; omega) (by omega) (by omega)
  obtain ⟨v', W, hr, h2, h3, h4, h5⟩ := key 0
  refine ⟨v', W, fun ty => hr, ?_, ⟨h3.os, h3.tape, h3.output, by have := h3.size; omega, fun k hk => ?_⟩, fun k hk hne => ?_, by have := h3.size; omega, fun k hk => ?_⟩
  · unfold OwnE
    rw [i64s_append, List.length_append]
    exact h2
  · exact (h3.block k (by omega) (fun e => by
      have := (World.ownsRow.lt (h.below bo) k e.symm).1
      omega)).trans (bo.block k (by omega))
  · exact (h3.block k (by omega) (fun e => hne k e.symm rfl)).trans (bo.block k hk)
  · rcases h5 with e | e
    · exact .inl (by rw [← e]; exact hk)
    · rw [e] at hk
      injection hk with hk
      exact .inr (by omega)
end Go.Proofs.Ytobkepipmmkboaa
