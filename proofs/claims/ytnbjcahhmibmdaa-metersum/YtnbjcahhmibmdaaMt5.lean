/- Shots in memory; what Play answers, and what holds between two of its rounds. -/
import Derived.Test.YtnbjcahhmibmdaaMtRun
import Derived.Test.YtnbjcahhmibmdaaMt4
namespace Go.Proofs.Ytnbjcahhmibmdaa
open Go.RowKit Go.Maps

/-- Shots lie in memory, one behind the other. -/
structure ShotsIn (w : World) (A : Option Addr) (xs : List (Int × Int)) : Prop where
  at_ : 0 < xs.length → ∃ b off, A = some ⟨b, off, none⟩ ∧ b < w.heap.size ∧ ∀ j o, xs[j]? = some o → w.cell? ⟨b, off + j * 2, none⟩ = some (.int .i64 o.1) ∧ w.cell? ⟨b, off + j * 2 + 1, none⟩ = some (.int .i64 o.2)
  len : xs.length * 16 ≤ 140737488355328
theorem ShotsIn.below {w w' : World} {A : Option Addr} {xs : List (Int × Int)} (h : ShotsIn w A xs) (hb : Below w.heap.size w w') : ShotsIn w' A xs := by
  refine ⟨fun h0 => ?_, h.len⟩
  obtain ⟨b, off, e, hl, hc⟩ := h.at_ h0
  exact ⟨b, off, e, Nat.lt_of_lt_of_le hl hb.size, fun j o ho => ⟨(hb.cell (p := ⟨b, off + j * 2, none⟩) hl).trans (hc j o ho).1, (hb.cell (p := ⟨b, off + j * 2 + 1, none⟩) hl).trans (hc j o ho).2⟩⟩
theorem ShotsIn.next {w : World} {A : Option Addr} {xs : List (Int × Int)} (h : ShotsIn w A xs) {i : Nat} (hi : i < xs.length) : ∃ b off t n, A = some ⟨b, off, none⟩ ∧ xs[i]? = some (t, n) ∧ w.cell? ⟨b, off + i * 2, none⟩ = some (.int .i64 t) ∧ w.cell? ⟨b, off + i * 2 + 1, none⟩ = some (.int .i64 n) ∧ b < w.heap.size := by
  obtain ⟨b, off, e, hl, hc⟩ := h.at_ (by omega)
  have ho := hc i _ (List.getElem?_eq_getElem hi)
  exact ⟨b, off, xs[i].1, xs[i].2, e, List.getElem?_eq_getElem hi, ho.1, ho.2, hl⟩

theorem IntsIn.nil (w : World) : IntsIn w none [] := ⟨fun h => absurd h (by decide), by decide⟩

/-- What Play answers: colours, a meter, an error. -/
def Played (w : World) (r : List Int × Mt × Int) (e : Ending) (w' : World) : Prop :=
  ∃ R cR, e = .returned (.tuple #[.slice R r.1.length cR, .agg r.2.1.cells, .int .i64 r.2.2]) ∧ r.1.length ≤ cR ∧ IntsIn w' R r.1 ∧ Below w.heap.size w w'

/-- Between two rounds: the meter in block g, the colours in block q, the result's block. -/
structure PlayInv (w wr : World) (g q n : Nat) (s : List Int × Mt) : Prop where
  below : Below w.heap.size w wr
  res : MtAt wr w.heap.size Mt.zero
  mt : MtAt wr g s.2
  row : ∃ F : Nat → Value, wr.rowIs q 3 n F ∧ (∀ j x, s.1[j]? = some x → F j = .int .i64 x) ∧ ∀ j, j < n → ∃ u, F j = .int .i64 u
  far : w.heap.size < g ∧ g < q
namespace PlayInv
variable {w wr w' : World} {g q n : Nat} {s : List Int × Mt}
theorem later (h : PlayInv w wr g q n s) (hb : Below wr.heap.size wr w') : PlayInv w w' g q n s := by
  obtain ⟨F, hr, hF⟩ := h.row
  exact ⟨h.below.trans (hb.mono h.below.size), h.res.below hb, h.mt.below hb, ⟨F, hr.of_block (hb.block q hr.lt), hF⟩, h.far⟩
theorem put (h : PlayInv w wr g q n s) (b : Mt) (u : Int) : PlayInv w ((wr.setRow g b.cells).setCell ⟨q, s.1.length, none⟩ (.int .i64 u)) g q n (s.1 ++ [u], b) := by
  obtain ⟨F, hr, hF, hG⟩ := h.row
  obtain ⟨f1, f2⟩ := h.far
  have hr2 : (wr.setRow g b.cells).rowIs q 3 n F := hr.of_block (setRow_other wr g q _ (by omega))
  refine ⟨(below_setRow h.below (by omega) _).setCell (by show w.heap.size ≤ q; omega) _, ?_, ?_, ⟨_, hr2.set s.1.length (.int .i64 u), fun j x hx => ?_, fun j hj => ?_⟩, h.far⟩
  · exact MtAt.other (show MtAt (wr.setRow g b.cells) w.heap.size Mt.zero from (setRow_other wr g w.heap.size _ (by omega)).trans h.res) _ _ (by show w.heap.size ≠ q; omega)
  · exact (h.mt.stored b).other _ _ (by show g ≠ q; omega)
  · dsimp only at hx ⊢
    rcases Nat.lt_trichotomy j s.1.length with c | c | c
    · rw [List.getElem?_append_left c] at hx
      rw [if_neg (by omega)]
      exact hF j x hx
    · subst c
      simp at hx
      rw [if_pos rfl, hx]
    · rw [List.getElem?_eq_none (by simp; omega)] at hx
      cases hx
  · split
    · exact ⟨u, rfl⟩
    · exact hG j hj
theorem seat (h : PlayInv w wr g q n s) (b : Mt) {i : Nat} (hi : i < n) : (∃ u, (wr.setRow g b.cells).cell? ⟨q, i, none⟩ = some (.int .i64 u)) ∧ (wr.setRow g b.cells).frozen? ⟨q, i, none⟩ = false := by
  obtain ⟨F, hr, hF, hG⟩ := h.row
  have hr2 : (wr.setRow g b.cells).rowIs q 3 n F := hr.of_block (setRow_other wr g q _ (by have := h.far; omega))
  obtain ⟨u, hu⟩ := hG i hi
  exact ⟨⟨u, by rw [hr2.cell hi, hu]⟩, hr2.frozen i⟩
theorem ended (h : PlayInv w wr g q n s) (b : Mt) : MtAt (wr.setRow w.heap.size b.cells) w.heap.size b ∧ Below w.heap.size w (wr.setRow w.heap.size b.cells) := ⟨h.res.stored b, below_setRow h.below (Nat.le_refl _) _⟩
theorem last (h : PlayInv w wr g q n s) (hn : s.1.length = n) (hl : n * 16 ≤ 140737488355328) (b : Mt) : IntsIn (wr.setRow w.heap.size b.cells) (some ⟨q, 0, none⟩) s.1 := by
  obtain ⟨F, hr, hF, _⟩ := h.row
  have hr2 : (wr.setRow w.heap.size b.cells).rowIs q 3 n F := hr.of_block (setRow_other wr _ q _ (by have := h.far; omega))
  refine ⟨fun h0 => ⟨q, 0, rfl, hr2.lt, fun j x hx => ?_⟩, by omega⟩
  have hj := (List.getElem?_eq_some_iff.1 hx).1
  rw [Nat.zero_add, hr2.cell (i := j) (by omega), hF j x hx]
end PlayInv
theorem played_mk {w W : World} {r : List Int × Mt × Int} {b : Mt} {c : Int} (h : r = ([], b, c)) (hb : Below w.heap.size w W) : Played w r (.returned (.tuple #[.slice none 0 0, .agg b.cells, .int .i64 c])) W := by
  rw [h]
  exact ⟨none, 0, rfl, Nat.le_refl _, IntsIn.nil _, hb⟩
end Go.Proofs.Ytnbjcahhmibmdaa
