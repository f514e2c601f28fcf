/- How the trie lies in memory. -/
import Derived.Test.YtcadjgmglaimdaaTr2
import Derived.Deep.OwnRows
import Derived.Deep.AppendLies
import Derived.Maps.AppendAt
import Derived.Lib.SliceRun
namespace Go.Proofs.Ytcadjgmglaimdaa
open Go.RowKit Go.Maps

/-! ### rows of cells -/
section
variable {α : Type} {c : α → List Value} {k : Nat}
theorem flat_length (hk : ∀ x, (c x).length = k) (xs : List α) : (xs.flatMap c).length = xs.length * k := by
  induction xs with
  | nil => simp
  | cons x xs ih => rw [List.flatMap_cons, List.length_append, hk, ih, List.length_cons, Nat.add_mul]; omega
theorem flat_at (hk : ∀ x, (c x).length = k) {xs : List α} {j : Nat} {x : α} (h : xs[j]? = some x) (i : Nat) (hi : i < k) : (xs.flatMap c)[j * k + i]? = (c x)[i]? := by
  induction xs generalizing j with
  | nil => cases h
  | cons y xs ih =>
    rw [List.flatMap_cons]
    cases j with
    | zero =>
      rw [List.getElem?_cons_zero] at h
      injection h with h
      subst h
      rw [Nat.zero_mul, Nat.zero_add, List.getElem?_append_left (by rw [hk]; exact hi)]
    | succ j =>
      rw [List.getElem?_cons_succ] at h
      rw [Nat.add_mul, Nat.one_mul, List.getElem?_append_right (by rw [hk]; omega), hk, show j * k + k + i - k = j * k + i by omega]
      exact ih h
theorem flat_set (hk : ∀ x, (c x).length = k) {xs : List α} {j : Nat} {x y : α} (h : xs[j]? = some x) (i : Nat) (u : Value) (hi : i < k) (hy : c y = (c x).set i u) : (xs.flatMap c).set (j * k + i) u = (xs.set j y).flatMap c := by
  induction xs generalizing j with
  | nil => cases h
  | cons z xs ih =>
    cases j with
    | zero =>
      rw [List.getElem?_cons_zero] at h
      injection h with h
      subst h
      rw [List.set_cons_zero, List.flatMap_cons, List.flatMap_cons, Nat.zero_mul, Nat.zero_add, List.set_append_left _ _ (by rw [hk]; exact hi), hy]
    | succ j =>
      rw [List.getElem?_cons_succ] at h
      rw [List.set_cons_succ, List.flatMap_cons, List.flatMap_cons, Nat.add_mul, Nat.one_mul, List.set_append_right _ _ (by rw [hk]; omega), hk, show j * k + k + i - k = j * k + i by omega, ih h]
end

def Nd.cells (a : Nd) : List Value := [.int .i64 (a.d0 : Int), .int .i64 (a.d1 : Int), .bool a.held, .int .i64 a.led]
theorem nd_len (a : Nd) : a.cells.length = 4 := rfl
def ndCells (ns : List Nd) : List Value := ns.flatMap Nd.cells
theorem nd_one (ns : List Nd) : ∀ u ∈ ndCells ns, u.oneCell' = true := by
  intro u hu
  simp only [ndCells, List.mem_flatMap, Nd.cells, List.mem_cons, List.not_mem_nil, or_false] at hu
  obtain ⟨o, _, h⟩ := hu
  rcases h with rfl | rfl | rfl | rfl <;> rfl
theorem info_node : (Try.prog.info? 62).map (fun i => (i.zero, i.size, i.bytes)) = some (some (.agg #[.int .i64 0, .int .i64 0, .bool false, .int .i64 0]), 4, 32) := by kernel_rfl
theorem under_nodes : Try.prog.underlying 57 = some (.slice 62) := by kernel_rfl

/-- Blocks below B stay, and so do rows of one prefix. -/
structure Kept (B : Nat) (w w' : World) : Prop where
  os : w'.os = w.os
  tape : w'.tape = w.tape
  output : w'.output = w.output
  size : w.heap.size ≤ w'.heap.size
  low : ∀ k : Nat, k < B → w'.heap[k]? = w.heap[k]?
  pf : ∀ (k : Nat) (c : Array Value), w.heap[k]? = some (.cells c 26 (0, 0)) → w'.heap[k]? = some (.cells c 26 (0, 0))
namespace Kept
variable {B : Nat} {a b d : World}
theorem refl (B : Nat) (w : World) : Kept B w w := ⟨rfl, rfl, rfl, Nat.le_refl _, fun _ _ => rfl, fun _ _ h => h⟩
theorem trans (h : Kept B a b) (k : Kept B b d) : Kept B a d := ⟨k.os.trans h.os, k.tape.trans h.tape, k.output.trans h.output, Nat.le_trans h.size k.size, fun i hi => (k.low i hi).trans (h.low i hi), fun i c hc => k.pf i c (h.pf i c hc)⟩
theorem drewN (h : Kept B a b) (n : Nat) : Kept B a (b.drewN n) := ⟨h.os, h.tape, h.output, h.size, h.low, h.pf⟩
theorem below (h : Kept B a b) : Below B a b := ⟨h.os, h.tape, h.output, h.size, h.low⟩
theorem of_below (h : Below a.heap.size a b) (hB : B ≤ a.heap.size) : Kept B a b :=
  ⟨h.os, h.tape, h.output, h.size, fun i hi => h.block i (by omega), fun i c hc => (h.block i (Array.getElem?_eq_some_iff.1 hc).1).trans hc⟩
theorem of_grown {g : Nat} {c : Array Value} {t : TypeId} (h : a.grownBy b (some g)) (hB : B ≤ g) (hBa : B ≤ a.heap.size) (hg : a.heap[g]? = some (.cells c t (0, 0))) (ht : t ≠ 26) : Kept B a b :=
  ⟨h.os, h.tape, h.output, h.size, fun i hi => h.block i (by omega) (by simp; omega), fun i c' hc => (h.block i (Array.getElem?_eq_some_iff.1 hc).1 (by
    intro e
    injection e with e
    subst e
    rw [hg] at hc
    injection hc with hc
    injection hc with _ h2
    exact ht h2)).trans hc⟩
end Kept

structure TrieAt (B : Nat) (w : World) (q : Nat) (ns : List Nd) : Prop where
  ex : ∃ g cap, w.heap[q]? = some (.cells #[.slice (some ⟨g, 0, none⟩) ns.length cap] 59 (0, 0)) ∧ w.ownsRow B 62 4 (.slice (some ⟨g, 0, none⟩) ns.length cap) ns.length (ndCells ns)
  bq : B ≤ q
  pos : 0 < ns.length
theorem row_at {B e size : Nat} {w : World} {g n cap : Nat} {xs : List Value} (h : w.ownsRow B e size (.slice (some ⟨g, 0, none⟩) n cap) n xs) : ∃ cur, w.heap[g]? = some (.cells cur e (0, 0)) ∧ B ≤ g ∧ n ≤ cap := by
  rcases h.2 with ⟨h', _⟩ | ⟨g', cap', cur, h', hb, hg, hn, _⟩
  · simp at h'
  · simp only [Value.slice.injEq, Option.some.injEq, Addr.mk.injEq, and_true, true_and] at h'
    obtain ⟨rfl, rfl⟩ := h'
    exact ⟨cur, hg, hb, hn⟩
theorem TrieAt.below {B : Nat} {w w' : World} {q : Nat} {ns : List Nd} (h : TrieAt B w q ns) (hb : Below w.heap.size w w') : TrieAt B w' q ns := by
  obtain ⟨g, cap, h1, h2⟩ := h.ex
  have hq := (Array.getElem?_eq_some_iff.1 h1).1
  have hg := (World.ownsRow.lt h2 g rfl).2
  refine ⟨⟨g, cap, (hb.block q hq).trans h1, ?_⟩, h.bq, h.pos⟩
  exact h2.kept ⟨hb.os, hb.tape, hb.output, hb.size, fun k hk _ => hb.block k hk⟩ (row := none) (.inr (by simp [Value.ownBlock]))
theorem TrieAt.lt {B : Nat} {w : World} {q : Nat} {ns : List Nd} (h : TrieAt B w q ns) : q < w.heap.size := by
  obtain ⟨g, cap, h1, h2⟩ := h.ex
  exact (Array.getElem?_eq_some_iff.1 h1).1
theorem block_ne {w : World} {a b : Nat} {c d : Array Value} {t u : TypeId} (h1 : w.heap[a]? = some (.cells c t (0, 0))) (h2 : w.heap[b]? = some (.cells d u (0, 0))) (hne : t ≠ u) : a ≠ b := by
  rintro rfl
  rw [h1] at h2
  injection h2 with h2
  injection h2 with _ h3
  exact hne h3
theorem node_cells {B : Nat} {w : World} {g cap : Nat} {ns : List Nd} (h : w.ownsRow B 62 4 (.slice (some ⟨g, 0, none⟩) ns.length cap) ns.length (ndCells ns)) {j : Nat} (hj : j < ns.length) :
    w.cell? ⟨g, j * 4, none⟩ = some (.int .i64 ((nd ns j).d0 : Int)) ∧ w.cell? ⟨g, j * 4 + 1, none⟩ = some (.int .i64 ((nd ns j).d1 : Int)) ∧ w.cell? ⟨g, j * 4 + 2, none⟩ = some (.bool (nd ns j).held) ∧ w.cell? ⟨g, j * 4 + 3, none⟩ = some (.int .i64 (nd ns j).led) := by
  have key : ∀ i, i < 4 → w.cell? ⟨g, j * 4 + i, none⟩ = (nd ns j).cells[i]? := fun i hi => by
    rw [World.ownsRow.cellAt h _ (by omega)]
    exact flat_at nd_len (nd_at hj) i hi
  exact ⟨key 0 (by omega), key 1 (by omega), key 2 (by omega), key 3 (by omega)⟩

/-- A cell of a node stored. -/
theorem node_stored {B : Nat} {w : World} {q g cap : Nat} {ns : List Nd} (hq : w.heap[q]? = some (.cells #[.slice (some ⟨g, 0, none⟩) ns.length cap] 59 (0, 0))) (h : w.ownsRow B 62 4 (.slice (some ⟨g, 0, none⟩) ns.length cap) ns.length (ndCells ns)) (hB : B ≤ w.heap.size)
    {j : Nat} (hj : j < ns.length) (i : Nat) (hi : i < 4) (u : Value) (y : Nd) (hy : y.cells = (nd ns j).cells.set i u) :
    (w.setCell ⟨g, j * 4 + i, none⟩ u).heap[q]? = some (.cells #[.slice (some ⟨g, 0, none⟩) (ns.set j y).length cap] 59 (0, 0)) ∧ (w.setCell ⟨g, j * 4 + i, none⟩ u).ownsRow B 62 4 (.slice (some ⟨g, 0, none⟩) (ns.set j y).length cap) (ns.set j y).length (ndCells (ns.set j y)) ∧ Kept B w (w.setCell ⟨g, j * 4 + i, none⟩ u) := by
  obtain ⟨cur, hg, hBg, _⟩ := row_at h
  obtain ⟨h1, h2⟩ := World.ownsRow.stored h (j * 4 + i) u
  rw [List.length_set]
  refine ⟨?_, ?_, Kept.of_grown h2 hBg hB hg (by decide)⟩
  · rw [h2.block q (Array.getElem?_eq_some_iff.1 hq).1 (by have := block_ne hq hg (by decide); simp; exact this)]
    exact hq
  · unfold ndCells at h1 ⊢
    rw [flat_set nd_len (nd_at hj) i u hi hy] at h1
    exact h1

theorem wpList_append_eq {P : Program} {ops : Array Oper} {rest : List Oper} {o : Oper} {a : Act} {w : World} {Q : Exit → Act → World → Prop} (hgd : o.guard = none) (s x : Operand) (t u : TypeId)
    (ho : o.op = .call { callee := .builtin .append, args := #[s, x], argTypes := #[t, u] })
    {vs vx v : Value} {w' : World} (hs : a.eval s = vs) (hx : a.eval x = vx) (hrun : (Builtin.append_ #[t, u] o.type #[vs, vx]).run P w = .ok v w') (h : wpList P ops Q rest (a.put o.dst v) w') : wpList P ops Q (o :: rest) a w :=
  wpList_plain hgd fun _ hK => by
    unfold Oper.wp execOp
    simp only [ho, resolve, invoke, builtin, Sem.run_bind, Sem.run_pure, Result.andThen_ok, List.map_toArray, List.map_cons, List.map_nil, hs, hx, hrun]
    exact hK _ _ h

/-- A node of noughts appended. -/
theorem node_append {B : Nat} {w : World} {q g cap : Nat} {ns : List Nd} (hq : w.heap[q]? = some (.cells #[.slice (some ⟨g, 0, none⟩) ns.length cap] 59 (0, 0))) (h : w.ownsRow B 62 4 (.slice (some ⟨g, 0, none⟩) ns.length cap) ns.length (ndCells ns)) (hB : B ≤ w.heap.size) (hBq : B ≤ q) (hn : ns.length ≤ 100000) :
    ∃ g' cap' W, (Builtin.append_ #[57, 57] 57 #[.slice (some ⟨g, 0, none⟩) ns.length cap, .slice (some ⟨w.heap.size, 0, none⟩) 1 1]).run Try.prog (w.alloc (.cells #[.int .i64 0, .int .i64 0, .bool false, .int .i64 0] 62)) = .ok (.slice (some ⟨g', 0, none⟩) (ns.length + 1) cap') W ∧
      W.cell? ⟨q, 0, none⟩ = some (.slice (some ⟨g, 0, none⟩) ns.length cap) ∧ W.frozen? ⟨q, 0, none⟩ = false ∧
      TrieAt B (W.setCell ⟨q, 0, none⟩ (.slice (some ⟨g', 0, none⟩) (ns.length + 1) cap')) q (ns ++ [Nd.zero]) ∧ Kept B w (W.setCell ⟨q, 0, none⟩ (.slice (some ⟨g', 0, none⟩) (ns.length + 1) cap')) ∧
      (W.setCell ⟨q, 0, none⟩ (.slice (some ⟨g', 0, none⟩) (ns.length + 1) cap')).cell? ⟨q, 0, none⟩ = some (.slice (some ⟨g', 0, none⟩) (ns.length + 1) cap') ∧
      (∀ j, j < ns.length → (W.setCell ⟨q, 0, none⟩ (.slice (some ⟨g', 0, none⟩) (ns.length + 1) cap')).cell? ⟨g', j * 4, none⟩ = some (.int .i64 ((nd ns j).d0 : Int)) ∧ (W.setCell ⟨q, 0, none⟩ (.slice (some ⟨g', 0, none⟩) (ns.length + 1) cap')).cell? ⟨g', j * 4 + 1, none⟩ = some (.int .i64 ((nd ns j).d1 : Int))) := by
  obtain ⟨i0, hi, hz0, hz1, hz2⟩ := info_parts info_node
  obtain ⟨cur, hg, hBg, _⟩ := row_at h
  have hqg := block_ne hq hg (by decide)
  have hql := (Array.getElem?_eq_some_iff.1 hq).1
  have hgl := (Array.getElem?_eq_some_iff.1 hg).1
  have hk0 : Kept B w (w.alloc (.cells #[.int .i64 0, .int .i64 0, .bool false, .int .i64 0] 62)) := Kept.of_below ((Below.refl _ _).alloc (Nat.le_refl _) _) hB
  have h1 := h.alloc (.cells #[.int .i64 0, .int .i64 0, .bool false, .int .i64 0] 62)
  have hnew : (w.alloc (.cells #[.int .i64 0, .int .i64 0, .bool false, .int .i64 0] 62)).heap[w.heap.size]? = some (.cells #[.int .i64 0, .int .i64 0, .bool false, .int .i64 0] 62 (0, 0)) := heap_alloc_new w _
  have hg1 : (w.alloc (.cells #[.int .i64 0, .int .i64 0, .bool false, .int .i64 0] 62)).heap[g]? = some (.cells cur 62 (0, 0)) := (Below.heap_alloc _ _ _ hgl).trans hg
  obtain ⟨g', cap', W, hr, o2, o3, _, o5⟩ := run_append_lies (P := Try.prog) (w.alloc (.cells #[.int .i64 0, .int .i64 0, .bool false, .int .i64 0] 62)) 57 57 B 62 i0 _ 4 32 under_nodes hi hz0 hz1 hz2 rfl (by decide) _ ns.length (ndCells ns) h1
    ⟨w.heap.size, 0, none⟩ 1 1 (ndCells [Nd.zero]) rfl (World.news_of_block hnew) (nd_one _) (by decide) (by simp only [maxLen]; omega) (by omega) (by simp; omega) _ rfl
  have hqW : W.heap[q]? = some (.cells #[.slice (some ⟨g, 0, none⟩) ns.length cap] 59 (0, 0)) := by
    rw [o3.block q (by simp; omega) (by simp [Value.ownBlock]; exact hqg), Below.heap_alloc _ _ _ hql]
    exact hq
  have e : ndCells (ns ++ [Nd.zero]) = ndCells ns ++ ndCells [Nd.zero] := by simp [ndCells]
  rw [← e] at o2
  obtain ⟨cur', hg', _, _⟩ := row_at o2
  have hqg' := block_ne hqW hg' (by decide)
  have hset : W.grownBy (W.setCell ⟨q, 0, none⟩ (.slice (some ⟨g', 0, none⟩) (ns.length + 1) cap')) (some q) := ⟨rfl, rfl, rfl, by simp, fun k _ hk => heap_setCell_other W ⟨q, 0, none⟩ k _ (fun e => hk (by simp [e]))⟩
  have o6 := o2.kept hset (.inr (by simp [Value.ownBlock]; exact fun e => hqg' e.symm))
  have hBW : B ≤ W.heap.size := Nat.le_trans hB (Nat.le_trans (by simp) o3.size)
  refine ⟨g', cap', W, hr, cell_of_row W q 0 _ _ _ hqW, frozen_of_row W q 0 _ _ hqW, ⟨⟨g', cap', ?_, ?_⟩, hBq, by simp⟩, ?_, ?_, fun j hj => ?_⟩
  · have := heap_setCell_same W q 0 _ _ (.slice (some ⟨g', 0, none⟩) (ns.length + 1) cap') hqW
    rw [this]
    simp
  · simpa using o6
  · exact (hk0.trans (Kept.of_grown o3 hBg (by simp; omega) hg1 (by decide))).trans (Kept.of_grown hset hBq hBW hqW (by decide))
  · rw [cell_of_row _ q 0 _ _ _ (heap_setCell_same W q 0 _ _ (.slice (some ⟨g', 0, none⟩) (ns.length + 1) cap') hqW)]
    rfl
  · have o7 : (W.setCell ⟨q, 0, none⟩ (.slice (some ⟨g', 0, none⟩) (ns.length + 1) cap')).ownsRow B 62 4 (.slice (some ⟨g', 0, none⟩) (ns ++ [Nd.zero]).length cap') (ns ++ [Nd.zero]).length (ndCells (ns ++ [Nd.zero])) := by simpa using o6
    have := node_cells o7 (j := j) (by simp; omega)
    rw [nd_snoc] at this
    exact ⟨this.1, this.2.1⟩
end Go.Proofs.Ytcadjgmglaimdaa
