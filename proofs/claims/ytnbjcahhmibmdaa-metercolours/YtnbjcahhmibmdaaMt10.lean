/- The reference: JColour where it colours: what its loop goes over. -/
import Derived.Test.YtnbjcahhmibmdaaMt9
import Derived.Test.YtnbjcahhmibmdaaBig19
import Derived.Test.YtnbjcahhmibmdaaBig22
namespace Go.Proofs.Ytnbjcahhmibmdaa
open Go.RowKit Go.Maps

theorem newInt_pos {x : Int} (h0 : 0 ≤ x) (h1 : x < 9223372036854775808) (w : World) : Calls Try.prog 20 #[.int .i64 x] w (NewInt w x) := by
  obtain ⟨n, rfl⟩ := Int.eq_ofNat_of_zero_le h0
  exact newInt_any n w (by omega)
theorem fits_small {n : Nat} (h : n < 18446744073709551616) : Fits n := Fits.of (k := 2) h (by decide)
namespace Box3
variable {w W W' : World} {b : Mt} {t n : Int}
theorem fst (h : Box3 w W b t n) (x : Int) : Box3 w (W.setCell ⟨w.heap.size, 3, none⟩ (.int .i64 x)) { b with fst := x } t n :=
  ⟨h.below.setCell (Nat.le_refl _) _, h.first.fst x, (heap_setCell_other W _ _ _ (by simp)).trans h.shot, h.third.other _ _ (by simp; omega)⟩
theorem snd (h : Box3 w W b t n) (x : Int) : Box3 w (W.setCell ⟨w.heap.size, 4, none⟩ (.int .i64 x)) { b with snd := x } t n :=
  ⟨h.below.setCell (Nat.le_refl _) _, h.first.snd x, (heap_setCell_other W _ _ _ (by simp)).trans h.shot, h.third.other _ _ (by simp; omega)⟩
theorem tm (h : Box3 w W b t n) (x : Int) : Box3 w (W.setCell ⟨w.heap.size, 5, none⟩ (.int .i64 x)) { b with tm := x } t n :=
  ⟨h.below.setCell (Nat.le_refl _) _, h.first.tm x, (heap_setCell_other W _ _ _ (by simp)).trans h.shot, h.third.other _ _ (by simp; omega)⟩
end Box3
/-- The row of the two buckets, each with its place and its burst. -/
structure RowAt (w W : World) (b : Mt) (q : Nat) : Prop where
  row : W.heap[q]? = some (.cells #[.pointer (some ⟨w.heap.size, 3, none⟩), .int .i64 b.burst, .pointer (some ⟨w.heap.size, 4, none⟩), .int .i64 b.exc] 53 (0, 0))
  far : w.heap.size < q
namespace RowAt
variable {w W W' : World} {b : Mt} {q : Nat}
theorem lt (h : RowAt w W b q) : q < W.heap.size := (Array.getElem?_eq_some_iff.1 h.row).1
theorem later (h : RowAt w W b q) (hb : Below W.heap.size W W') : RowAt w W' b q := ⟨(hb.block q h.lt).trans h.row, h.far⟩
theorem put (h : RowAt w W b q) (j : Nat) (v : Value) : RowAt w (W.setCell ⟨w.heap.size, j, none⟩ v) b q := ⟨(heap_setCell_other W _ _ _ (by have := h.far; simp; omega)).trans h.row, h.far⟩
theorem cells (h : RowAt w W b q) : W.cell? ⟨q, 0, none⟩ = some (.pointer (some ⟨w.heap.size, 3, none⟩)) ∧ W.cell? ⟨q, 1, none⟩ = some (.int .i64 b.burst) ∧ W.cell? ⟨q, 2, none⟩ = some (.pointer (some ⟨w.heap.size, 4, none⟩)) ∧ W.cell? ⟨q, 3, none⟩ = some (.int .i64 b.exc) :=
  ⟨cell_of_row _ _ 0 _ _ _ h.row, cell_of_row _ _ 1 _ _ _ h.row, cell_of_row _ _ 2 _ _ _ h.row, cell_of_row _ _ 3 _ _ _ h.row⟩
theorem new {t n : Int} {b' : Mt} (h : Box3 w W b' t n) : RowAt w (W.alloc (.cells #[.pointer (some ⟨w.heap.size, 3, none⟩), .int .i64 b.burst, .pointer (some ⟨w.heap.size, 4, none⟩), .int .i64 b.exc] 53)) b W.heap.size := ⟨heap_alloc_new W _, h.first.lt⟩
end RowAt
/-- A bucket of the row in a block of its own. -/
def OneAt (W : World) (p : Nat) (v : Value) (x : Int) : Prop := W.heap[p]? = some (.cells #[v, .int .i64 x] 53 (0, 0))
theorem OneAt.lt {W : World} {p : Nat} {v : Value} {x : Int} (h : OneAt W p v x) : p < W.heap.size := (Array.getElem?_eq_some_iff.1 h).1
theorem OneAt.later {W W' : World} {p : Nat} {v : Value} {x : Int} (h : OneAt W p v x) (hb : Below W.heap.size W W') : OneAt W' p v x := (hb.block p h.lt).trans h
theorem OneAt.cells {W : World} {p : Nat} {v : Value} {x : Int} (h : OneAt W p v x) : W.cell? ⟨p, 0, none⟩ = some v ∧ W.cell? ⟨p, 1, none⟩ = some (.int .i64 x) := ⟨cell_of_row _ _ 0 _ _ _ h, cell_of_row _ _ 1 _ _ _ h⟩
/-- What the loop leaves, in numbers. -/
structure Poured (b : Mt) (N G1 F1 F O G2 F2 S O2 : Int) : Prop where
  g1 : IntKind.i64.wrap (b.burst - b.fst) = G1
  m1 : (if G1 < N then G1 else N) = F1
  f : wrap64 (b.fst + F1) = F
  o : wrap64 (N - F1) = O
  g2 : IntKind.i64.wrap (b.exc - b.snd) = G2
  m2 : (if G2 < O then G2 else O) = F2
  s : wrap64 (b.snd + F2) = S
  o2 : wrap64 (O - F2) = O2
  pour : ∀ t, b.pour N t = ⟨b.rate, b.burst, b.exc, F, S, t⟩
theorem poured {b : Mt} (h : b.Ok) {N : Int} (n0 : 0 ≤ N) (n1 : N ≤ 4194304) : ∃ G1 F1 F O G2 F2 S O2, Poured b N G1 F1 F O G2 F2 S O2 := by
  have f0 := h.f0; have f1 := h.f1; have s0 := h.s0; have s1 := h.s1; have b1 := h.b1; have e1 := h.e1
  obtain ⟨G1, hG1⟩ : ∃ G, b.burst - b.fst = G := ⟨_, rfl⟩
  obtain ⟨F1, hF1⟩ : ∃ F, min N G1 = F := ⟨_, rfl⟩
  obtain ⟨G2, hG2⟩ : ∃ G, b.exc - b.snd = G := ⟨_, rfl⟩
  obtain ⟨F2, hF2⟩ : ∃ F, min (N - F1) G2 = F := ⟨_, rfl⟩
  refine ⟨G1, F1, b.fst + F1, N - F1, G2, F2, b.snd + F2, N - F1 - F2, ?_, ?_, ?_, ?_, ?_, ?_, ?_, ?_, fun t => ?_⟩
  · rw [hG1]; exact wrap_i64 (by omega) (by omega)
  · rw [← hF1]; split <;> omega
  · exact w64 (by omega) (by omega)
  · exact w64 (by omega) (by omega)
  · rw [hG2]; exact wrap_i64 (by omega) (by omega)
  · rw [← hF2]; split <;> omega
  · exact w64 (by omega) (by omega)
  · exact w64 (by omega) (by omega)
  · unfold Mt.pour
    rw [hG1, hG2, hF1, hF2]
end Go.Proofs.Ytnbjcahhmibmdaa
