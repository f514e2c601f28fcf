/- Rows of words in memory; what Play answers, and what holds between two of its rounds. -/
import Derived.Test.YtkcfhjbppnchoaaBkRun
namespace Go.Proofs.Ytkcfhjbppnchoaa
open Go.RowKit Go.Maps

/-- Words lie in memory, one behind the other. -/
structure WordsIn (w : World) (A : Option Addr) (xs : List Bool) : Prop where
  at_ : 0 < xs.length → ∃ b off, A = some ⟨b, off, none⟩ ∧ b < w.heap.size ∧ ∀ j x, xs[j]? = some x → w.cell? ⟨b, off + j, none⟩ = some (.bool x)
  len : xs.length * 16 ≤ 140737488355328
theorem WordsIn.below {w w' : World} {A : Option Addr} {xs : List Bool} (h : WordsIn w A xs) (hb : Below w.heap.size w w') : WordsIn w' A xs := by
  refine ⟨fun h0 => ?_, h.len⟩
  obtain ⟨b, off, e, hl, hc⟩ := h.at_ h0
  exact ⟨b, off, e, Nat.lt_of_lt_of_le hl hb.size, fun j x hx => (hb.cell (p := ⟨b, off + j, none⟩) hl).trans (hc j x hx)⟩
theorem WordsIn.next {w : World} {A : Option Addr} {xs : List Bool} (h : WordsIn w A xs) {i : Nat} (hi : i < xs.length) : ∃ b off x, A = some ⟨b, off, none⟩ ∧ xs[i]? = some x ∧ w.cell? ⟨b, off + i, none⟩ = some (.bool x) ∧ b < w.heap.size := by
  obtain ⟨b, off, e, hl, hc⟩ := h.at_ (by omega)
  exact ⟨b, off, xs[i], e, List.getElem?_eq_getElem hi, hc i _ (List.getElem?_eq_getElem hi), hl⟩
theorem WordsIn.nil (w : World) : WordsIn w none [] := ⟨fun h => absurd h (by decide), by decide⟩

/-- What Play answers: words, a bucket, an error. -/
def Played (w : World) (r : List Bool × Bk × Int) (e : Ending) (w' : World) : Prop :=
  ∃ R cR, e = .returned (.tuple #[.slice R r.1.length cR, .agg r.2.1.cells, .int .i64 r.2.2]) ∧ r.1.length ≤ cR ∧ WordsIn w' R r.1 ∧ Below w.heap.size w w'

/-- Between two rounds: the bucket in block g, the words in block q, the result's block. -/
structure PlayInv (w wr : World) (g q n : Nat) (s : List Bool × Bk) : Prop where
  below : Below w.heap.size w wr
  res : BkAt wr w.heap.size Bk.zero
  bk : BkAt wr g s.2
  row : ∃ F : Nat → Value, wr.rowIs q 4 n F ∧ (∀ j x, s.1[j]? = some x → F j = .bool x) ∧ ∀ j, j < n → ∃ u, F j = .bool u
  far : w.heap.size < g ∧ g < q
namespace PlayInv
variable {w wr w' : World} {g q n : Nat} {s : List Bool × Bk}
theorem later (h : PlayInv w wr g q n s) (hb : Below wr.heap.size wr w') : PlayInv w w' g q n s := by
  obtain ⟨F, hr, hF⟩ := h.row
  exact ⟨h.below.trans (hb.mono h.below.size), h.res.below hb, h.bk.below hb, ⟨F, hr.of_block (hb.block q hr.lt), hF⟩, h.far⟩
theorem put (h : PlayInv w wr g q n s) (b : Bk) (u : Bool) : PlayInv w ((wr.setRow g b.cells).setCell ⟨q, s.1.length, none⟩ (.bool u)) g q n (s.1 ++ [u], b) := by
  obtain ⟨F, hr, hF, hG⟩ := h.row
  obtain ⟨f1, f2⟩ := h.far
  have hr2 : (wr.setRow g b.cells).rowIs q 4 n F := hr.of_block (setRow_other wr g q _ (by omega))
  refine ⟨(below_setRow h.below (by omega) _).setCell (by show w.heap.size ≤ q; omega) _, ?_, ?_, ⟨_, hr2.set s.1.length (.bool u), fun j x hx => ?_, fun j hj => ?_⟩, h.far⟩
  · exact BkAt.other (show BkAt (wr.setRow g b.cells) w.heap.size Bk.zero from (setRow_other wr g w.heap.size _ (by omega)).trans h.res) _ _ (by show w.heap.size ≠ q; omega)
  · exact (h.bk.stored b).other _ _ (by show g ≠ q; omega)
  · dsimp only at hx ⊢
    rcases Nat.lt_trichotomy j s.1.length with c | c | c
    · rw [List.getElem?_append_left c] at hx
      rw [if_neg (by omega)]
      exact hF j x hx
    · subst c
      simp at hx
      rw [if_pos rfl, hx]
    · rw [List.getElem?_eq_none (by simp; omega)] at hx
      cases hx
  · split
    · exact ⟨u, rfl⟩
    · exact hG j hj
theorem words (h : PlayInv w wr g q n s) (hn : s.1.length = n) (hl : n * 16 ≤ 140737488355328) : WordsIn wr (some ⟨q, 0, none⟩) s.1 := by
  obtain ⟨F, hr, hF, _⟩ := h.row
  refine ⟨fun h0 => ⟨q, 0, rfl, hr.lt, fun j x hx => ?_⟩, by omega⟩
  have hj := (List.getElem?_eq_some_iff.1 hx).1
  rw [Nat.zero_add, hr.cell (i := j) (by omega), hF j x hx]
theorem seat (h : PlayInv w wr g q n s) (b : Bk) {i : Nat} (hi : i < n) : (∃ u, (wr.setRow g b.cells).cell? ⟨q, i, none⟩ = some (.bool u)) ∧ (wr.setRow g b.cells).frozen? ⟨q, i, none⟩ = false := by
  obtain ⟨F, hr, hF, hG⟩ := h.row
  have hr2 : (wr.setRow g b.cells).rowIs q 4 n F := hr.of_block (setRow_other wr g q _ (by have := h.far; omega))
  obtain ⟨u, hu⟩ := hG i hi
  exact ⟨⟨u, by rw [hr2.cell hi, hu]⟩, hr2.frozen i⟩
theorem ended (h : PlayInv w wr g q n s) (b : Bk) : BkAt (wr.setRow w.heap.size b.cells) w.heap.size b ∧ Below w.heap.size w (wr.setRow w.heap.size b.cells) := ⟨h.res.stored b, below_setRow h.below (Nat.le_refl _) _⟩
theorem last (h : PlayInv w wr g q n s) (hn : s.1.length = n) (hl : n * 16 ≤ 140737488355328) (b : Bk) : WordsIn (wr.setRow w.heap.size b.cells) (some ⟨q, 0, none⟩) s.1 := by
  obtain ⟨F, hr, hF, _⟩ := h.row
  have hr2 : (wr.setRow w.heap.size b.cells).rowIs q 4 n F := hr.of_block (setRow_other wr _ q _ (by have := h.far; omega))
  refine ⟨fun h0 => ⟨q, 0, rfl, hr2.lt, fun j x hx => ?_⟩, by omega⟩
  have hj := (List.getElem?_eq_some_iff.1 hx).1
  rw [Nat.zero_add, hr2.cell (i := j) (by omega), hF j x hx]
end PlayInv
end Go.Proofs.Ytkcfhjbppnchoaa
