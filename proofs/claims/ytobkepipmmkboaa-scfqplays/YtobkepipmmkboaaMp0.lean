/- A map of ints by ints of one's own, told by its values at natural numbers (0 where nothing is kept): a look-up, a store. -/
import Derived.Test.YtobkepipmmkboaaIn2
import Derived.Deep.OwnRows
import Derived.Maps.OwnSet
namespace Go.Proofs.Ytobkepipmmkboaa
open Go.RowKit Go.Maps

theorem und_int : Try.prog.underlying 3 = some (.int .i64) := by kernel_rfl
theorem und_map : Try.prog.underlying 54 = some (.map 3 3) := by kernel_rfl
theorem int_keys : Keyed Try.prog 3 := int_keyed und_int
theorem zero_int (w : World) : (zeroValue 3).run Try.prog w = .ok (.int .i64 0) w := by kernel_rfl
theorem i64_wf {x : Int} (h0 : -9223372036854775808 ≤ x) (h1 : x ≤ 9223372036854775807) : (Lit.int .i64 x).wf = true := WalkArith.wf_i64 (by omega)
/-- The map in block b has at most n entries; at f it holds M f. -/
def MapN (w : World) (b n : Nat) (M : Nat → Int) : Prop :=
  ∃ D : DataW Unit, w.ownsMap Try.prog 3 (plainElem Try.prog 3) b n D ∧ ∀ f : Nat, D.atKey (.int .i64 (f : Int)) (.lit (.int .i64 0)) = .lit (.int .i64 (M f))
namespace MapN
variable {w : World} {b n : Nat} {M : Nat → Int}
theorem of_block {w' : World} (h : MapN w b n M) (e : w'.heap[b]? = w.heap[b]?) : MapN w' b n M := by
  obtain ⟨D, ⟨es, clock, hb, r⟩, r2⟩ := h
  exact ⟨D, ⟨es, clock, e.trans hb, r⟩, r2⟩
theorem lt (h : MapN w b n M) : b < w.heap.size := by obtain ⟨D, hD, _⟩ := h; exact hD.lt
theorem look (h : MapN w b n M) {f : Nat} (hf : f ≤ 1000) : (Instr.lookup 54 (.map (some b)) (.int .i64 (f : Int)) false).run Try.prog w = .ok (.int .i64 (M f)) w := by
  obtain ⟨D, ⟨es, clock, hb, F, _, rfl⟩, hM⟩ := h
  have e := hM f
  rcases fit_look false int_keys und_map (zero_int w) hb F (keyOf_int_mk und_int (i64_wf (x := (f : Int)) (by omega) (by omega))) with ⟨hrun, _, hat⟩ | ⟨e0, y, _, _, hrun, hRv, hat, _⟩
  · rw [hat] at e
    injection e with e
    injection e with _ e
    rw [← e]
    exact hrun
  · obtain ⟨c, hc, hy, _⟩ := plainElem_int_inv und_int hRv
    rw [hat, hy] at e
    injection e with e
    injection e with _ e
    rw [← e, ← hc]
    exact hrun
theorem store (h : MapN w b n M) {f : Nat} (hf : f ≤ 1000) {v : Int} (h0 : 0 ≤ v) (h1 : v ≤ 9223372036854775807) (hn : n ≤ 1000) :
    ∃ w', (Instr.mapUpdate 54 (.map (some b)) (.int .i64 (f : Int)) (.int .i64 v)).run Try.prog w = .ok () w' ∧ MapN w' b (n + 1) (fun k => if k = f then v else M k) ∧ w.mapTurned w' b := by
  obtain ⟨D, hD, hM⟩ := h
  obtain ⟨w', hrun, ho, ht⟩ := hD.store int_keys und_map (by unfold maxLen; omega) (keyOf_int_mk und_int (i64_wf (x := (f : Int)) (by omega) (by omega))) (plainElem_int und_int (i64_wf (x := v) (by omega) h1))
  refine ⟨w', hrun, ⟨_, ho, fun k => ?_⟩, ht⟩
  dsimp only
  by_cases c : k = f
  · subst c
    rw [if_pos rfl]
    exact atKey_put_same hD.isMap (show WideAt.IsKeyLit (.int .i64 (k : Int)) from trivial) _ _
  · rw [if_neg c, atKey_put_other (fun e => c (by injection e with _ e; omega))]
    exact hM k
theorem made (w : World) : MapN (w.alloc (.map #[] 0)) w.heap.size 0 (fun _ => 0) :=
  ⟨.map [], World.ownsMap_made w _ _ _, fun _ => rfl⟩
theorem rest {w' : World} {b B : Nat} (h : w.mapTurned w' b) (hB : B ≤ b) (hw : B ≤ w.heap.size) : Below B w w' ∧ w.heap.size ≤ w'.heap.size ∧ ∀ k, k < w.heap.size → k ≠ b → w'.heap[k]? = w.heap[k]? := by
  have g := h.grown
  have hr : ∀ k, k < w.heap.size → k ≠ b → w'.heap[k]? = w.heap[k]? := fun k hk hne => g.block k hk (fun e => hne (by injection e))
  exact ⟨⟨g.os, g.tape, g.output, g.size, fun k hk => hr k (by omega) (by omega)⟩, g.size, hr⟩
end MapN
end Go.Proofs.Ytobkepipmmkboaa
