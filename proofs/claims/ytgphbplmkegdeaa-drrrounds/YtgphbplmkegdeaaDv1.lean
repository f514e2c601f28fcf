/- Package drr: the service in memory. -/
import Derived.Test.YtgphbplmkegdeaaDr1
import Derived.Test.YtgphbplmkegdeaaSn1
import Derived.Test.YtgphbplmkegdeaaIn3
namespace Go.Proofs.Ytgphbplmkegdeaa
open Go.RowKit Go.Maps

def three (a b c : Value) : Nat → Value := fun j => if j = 0 then a else if j = 1 then b else c
/-- A slice of packets of the service's own. -/
def Inner (B0 : Nat) (wr : World) (B sb lb : Nat) (CB : Option Addr) (v : Value) (xs : List Int) : Prop := ∃ A c, v = .slice A xs.length c ∧ Fifo B0 wr A xs c ∧ ∀ g, Ab A g → g < B ∧ g ≠ sb ∧ g ≠ lb ∧ ¬ Ab CB g
theorem Inner.move {B0 : Nat} {wr W : World} {B sb lb : Nat} {CB : Option Addr} {v : Value} {xs : List Int} (h : Inner B0 wr B sb lb CB v xs) (hs : wr.heap.size ≤ W.heap.size) (hb : ∀ g, g < B → g ≠ sb → g ≠ lb → ¬ Ab CB g → W.heap[g]? = wr.heap[g]?) : Inner B0 W B sb lb CB v xs := by
  obtain ⟨A, c, e, hf, ha⟩ := h
  exact ⟨A, c, e, hf.of_blocks hs fun g hg _ => hb g (ha g hg).1 (ha g hg).2.1 (ha g hg).2.2.1 (ha g hg).2.2.2, ha⟩
/-- A service: what was sent, what is left, the credits. -/
structure Sv (w wr : World) (B sb lb n : Nat) (CB : Option Addr) (cc : Nat) (S : List (Nat × Int)) (L : Nat → List Int) (C : List Int) : Prop where
  below : Below w.heap.size w wr
  mark : B ≤ wr.heap.size
  far : w.heap.size ≤ sb ∧ sb < B ∧ w.heap.size ≤ lb ∧ lb < B ∧ sb ≠ lb
  row : ∃ v, wr.rowIs sb 49 3 (three v (.slice (some ⟨lb, 0, none⟩) n n) (.slice CB n cc)) ∧ OwnS B wr v S
  left : ∃ F, wr.rowIs lb 22 n F ∧ ∀ j, j < n → Inner w.heap.size wr B sb lb CB (F j) (L j)
  cred : Fifo w.heap.size wr CB C cc
  len : C.length = n
  cab : ∀ g, Ab CB g → g < B ∧ g ≠ sb ∧ g ≠ lb
namespace Sv
variable {w wr W : World} {B sb lb n : Nat} {CB : Option Addr} {cc : Nat} {S : List (Nat × Int)} {L : Nat → List Int} {C : List Int}
theorem later (h : Sv w wr B sb lb n CB cc S L C) (hb : Below wr.heap.size wr W) : Sv w W B sb lb n CB cc S L C := by
  obtain ⟨v, h1, h2⟩ := h.row
  obtain ⟨F, h3, h4⟩ := h.left
  have hm := h.mark
  exact ⟨h.below.trans (hb.mono h.below.size), Nat.le_trans h.mark hb.size, h.far, ⟨v, h1.of_block (hb.block _ h1.lt), h2.below hb⟩,
    ⟨F, h3.of_block (hb.block _ h3.lt), fun j hj => (h4 j hj).move hb.size fun g hg _ _ _ => hb.block g (by omega)⟩, h.cred.below hb, h.len, h.cab⟩
theorem drewN (h : Sv w wr B sb lb n CB cc S L C) (q : Nat) : Sv w (wr.drewN q) B sb lb n CB cc S L C := h.later (below_drewN (Below.refl _ _) q)
theorem drew (h : Sv w wr B sb lb n CB cc S L C) : Sv w wr.drew B sb lb n CB cc S L C := h.later (Below.refl _ _).drew
theorem c0 (h : Sv w wr B sb lb n CB cc S L C) : ∃ v, wr.cell? ⟨sb, 0, none⟩ = some v ∧ OwnS B wr v S := by
  obtain ⟨v, h1, h2⟩ := h.row
  exact ⟨v, h1.cell (by omega), h2⟩
theorem c1 (h : Sv w wr B sb lb n CB cc S L C) : wr.cell? ⟨sb, 1, none⟩ = some (.slice (some ⟨lb, 0, none⟩) n n) := by
  obtain ⟨v, h1, h2⟩ := h.row
  exact h1.cell (by omega)
theorem c2 (h : Sv w wr B sb lb n CB cc S L C) : wr.cell? ⟨sb, 2, none⟩ = some (.slice CB n cc) := by
  obtain ⟨v, h1, h2⟩ := h.row
  exact h1.cell (by omega)
theorem fz (h : Sv w wr B sb lb n CB cc S L C) (j : Nat) : wr.frozen? ⟨sb, j, none⟩ = false := by
  obtain ⟨v, h1, h2⟩ := h.row
  exact h1.frozen j
/-- What is left of a flow. -/
theorem queue (h : Sv w wr B sb lb n CB cc S L C) {k : Nat} (hk : k < n) : ∃ A c, wr.cell? ⟨lb, k, none⟩ = some (.slice A (L k).length c) ∧ wr.frozen? ⟨lb, k, none⟩ = false ∧ Fifo w.heap.size wr A (L k) c ∧ ∀ g, Ab A g → g < B ∧ g ≠ sb ∧ g ≠ lb ∧ ¬ Ab CB g := by
  obtain ⟨F, h3, h4⟩ := h.left
  obtain ⟨A, c, e, hf, ha⟩ := h4 k hk
  exact ⟨A, c, by rw [h3.cell hk, e], h3.frozen k, hf, ha⟩
/-- The credit of a flow. -/
theorem purse (h : Sv w wr B sb lb n CB cc S L C) {k : Nat} (hk : k < n) : ∃ g off, CB = some ⟨g, off, none⟩ ∧ wr.cell? ⟨g, off + k, none⟩ = some (.int .i64 (fn C k)) ∧ wr.frozen? ⟨g, off + k, none⟩ = false := by
  have h1 := h.cred.le
  have h2 := h.len
  obtain ⟨g, off, N, F, e, hB, hr, hN, hF⟩ := h.cred.row (by omega)
  exact ⟨g, off, e, by rw [hr.cell (by omega), hF k _ (at_fn (by omega))], hr.frozen _⟩
/-- A packet is sent. -/
theorem push (h : Sv w wr B sb lb n CB cc S L C) (k : Nat) (b : Int) (hn : S.length ≤ 100000) : ∃ v Av nv cv W, wr.cell? ⟨sb, 0, none⟩ = some v ∧
    (∀ ty, (Builtin.append_ #[24, 24] ty #[v, .slice (some ⟨wr.heap.size, 0, none⟩) 1 1]).run Try.prog (laidS wr k b) = .ok (.slice Av nv cv) W) ∧
    W.cell? ⟨sb, 0, none⟩ = some v ∧ W.frozen? ⟨sb, 0, none⟩ = false ∧ Below B wr W ∧
    Sv w (W.setCell ⟨sb, 0, none⟩ (.slice Av nv cv)) B sb lb n CB cc (S ++ [(k, b)]) L C ∧ wr.heap.size ≤ (W.setCell ⟨sb, 0, none⟩ (.slice Av nv cv)).heap.size ∧ ∀ g, g < B → g ≠ sb → (W.setCell ⟨sb, 0, none⟩ (.slice Av nv cv)).heap[g]? = wr.heap[g]? := by
  obtain ⟨v, h1, h2⟩ := h.row
  obtain ⟨F, h3, h4⟩ := h.left
  obtain ⟨v', W, hr, ho, hb⟩ := sent_append h2 k b h.mark hn
  obtain ⟨Av, cv, ev, -⟩ := ho.form
  generalize (S ++ [(k, b)]).length = nv at ev
  subst ev
  have hf := h.far
  have hm := h.mark
  have hsz : wr.heap.size ≤ (W.setCell ⟨sb, 0, none⟩ (.slice Av nv cv)).heap.size := by simpa [World.setCell] using hb.size
  have hbl : ∀ g, g < B → g ≠ sb → (W.setCell ⟨sb, 0, none⟩ (.slice Av nv cv)).heap[g]? = wr.heap[g]? := fun g hg hne => (Below.heap_setCell W ⟨sb, 0, none⟩ (.slice Av nv cv) g hne).trans (hb.block g hg)
  have hrow := h1.of_block (hb.block sb hf.2.1)
  have hbw : Below w.heap.size w W := h.below.trans (hb.mono (by omega))
  refine ⟨v, Av, nv, cv, W, h1.cell (by omega), hr, hrow.cell (by omega), hrow.frozen 0, hb, ⟨hbw.setCell (p := ⟨sb, 0, none⟩) hf.1 _, by omega, hf, ⟨.slice Av nv cv, (hrow.set 0 _).congr fun j _ => ?_, ho.block fun g hg _ => Below.heap_setCell W ⟨sb, 0, none⟩ (.slice Av nv cv) g (by show g ≠ sb; omega)⟩,
    ⟨F, h3.of_block (hbl lb hf.2.2.2.1 (fun e => hf.2.2.2.2 e.symm)), fun j hj => (h4 j hj).move hsz fun g hg h1 _ _ => hbl g hg h1⟩, h.cred.of_blocks hsz fun g hg _ => hbl g (h.cab g hg).1 (h.cab g hg).2.1, h.len, h.cab⟩, hsz, hbl⟩
  unfold three
  by_cases c : j = 0
  · rw [if_pos c, if_pos c]
  · rw [if_neg c, if_neg c, if_neg c]
theorem frame (p : Addr) (v : Value) : wr.heap.size ≤ (wr.setCell p v).heap.size ∧ ∀ g, g ≠ p.block → (wr.setCell p v).heap[g]? = wr.heap[g]? :=
  ⟨by simp [World.setCell], fun g hg => Below.heap_setCell wr p v g hg⟩
/-- What is left of a flow is put. -/
theorem putL (h : Sv w wr B sb lb n CB cc S L C) {k : Nat} (hk : k < n) {A : Option Addr} {xs : List Int} {c : Nat} (hA : Fifo w.heap.size wr A xs c) (ha : ∀ g, Ab A g → g < B ∧ g ≠ sb ∧ g ≠ lb ∧ ¬ Ab CB g) :
    Sv w (wr.setCell ⟨lb, k, none⟩ (.slice A xs.length c)) B sb lb n CB cc S (fun j => if j = k then xs else L j) C ∧ wr.heap.size ≤ (wr.setCell ⟨lb, k, none⟩ (.slice A xs.length c)).heap.size ∧ ∀ g, g ≠ lb → (wr.setCell ⟨lb, k, none⟩ (.slice A xs.length c)).heap[g]? = wr.heap[g]? := by
  obtain ⟨v, h1, h2⟩ := h.row
  obtain ⟨F, h3, h4⟩ := h.left
  obtain ⟨hsz, hbl⟩ := frame (wr := wr) ⟨lb, k, none⟩ (.slice A xs.length c)
  have hf := h.far
  have hm := h.mark
  refine ⟨⟨h.below.setCell (p := ⟨lb, k, none⟩) hf.2.2.1 _, by omega, hf, ⟨v, h1.of_block (hbl sb hf.2.2.2.2), h2.block fun g hg _ => hbl g (by show g ≠ lb; omega)⟩, ⟨_, h3.set k _, fun j hj => ?_⟩, h.cred.of_blocks hsz fun g hg _ => hbl g (h.cab g hg).2.2, h.len, h.cab⟩, hsz, hbl⟩
  by_cases e : j = k
  · subst e
    rw [if_pos rfl, if_pos rfl]
    exact Inner.move (v := .slice A xs.length c) ⟨A, c, rfl, hA, ha⟩ hsz fun g _ _ h2 _ => hbl g h2
  · rw [if_neg e, if_neg e]
    exact (h4 j hj).move hsz fun g _ _ h2 _ => hbl g h2
/-- The credit of a flow is put. -/
theorem putC (h : Sv w wr B sb lb n CB cc S L C) {k : Nat} (hk : k < n) (y : Int) {g off : Nat} (e : CB = some ⟨g, off, none⟩) :
    Sv w (wr.setCell ⟨g, off + k, none⟩ (.int .i64 y)) B sb lb n CB cc S L (C.set k y) ∧ wr.heap.size ≤ (wr.setCell ⟨g, off + k, none⟩ (.int .i64 y)).heap.size ∧ ∀ b, b ≠ g → (wr.setCell ⟨g, off + k, none⟩ (.int .i64 y)).heap[b]? = wr.heap[b]? := by
  obtain ⟨v, h1, h2⟩ := h.row
  obtain ⟨F, h3, h4⟩ := h.left
  obtain ⟨hsz, hbl⟩ := frame (wr := wr) ⟨g, off + k, none⟩ (.int .i64 y)
  have hf := h.far
  have hm := h.mark
  have hg : Ab CB g := ⟨_, e, rfl⟩
  have hcg := h.cab g hg
  have hl := h.len
  have hle := h.cred.le
  obtain ⟨g', off', N, F', e', hB, hr, hN, hF⟩ := h.cred.row (by omega)
  rw [e] at e'
  injection e' with e'
  simp only [Addr.mk.injEq, and_true] at e'
  obtain ⟨rfl, rfl⟩ := e'
  refine ⟨⟨h.below.setCell (p := ⟨g, off + k, none⟩) hB _, by omega, hf, ⟨v, h1.of_block (hbl sb (fun e => hcg.2.1 e.symm)), h2.block fun b hb _ => hbl b (by show b ≠ g; omega)⟩, ⟨F, h3.of_block (hbl lb (fun e => hcg.2.2 e.symm)), fun j hj => (h4 j hj).move hsz fun b _ _ _ hn => hbl b (fun e => hn (e ▸ hg))⟩,
    ⟨by rw [List.length_set]; exact hle, h.cred.max, fun h0 => ⟨g, off, N, _, e, hB, hr.set (off + k) (.int .i64 y), hN, fun j x hx => ?_⟩, fun b hb => ⟨(h.cred.ab b hb).1, Nat.lt_of_lt_of_le (h.cred.ab b hb).2 hsz⟩⟩, by rw [List.length_set]; exact hl, h.cab⟩, hsz, hbl⟩
  rw [List.getElem?_set] at hx
  by_cases c : k = j
  · subst c
    rw [if_pos rfl, if_pos (by omega)] at hx
    injection hx with hx
    show (if off + k = off + k then _ else _) = _
    rw [if_pos rfl, hx]
  · rw [if_neg c] at hx
    show (if off + j = off + k then _ else _) = _
    rw [if_neg (by omega)]
    exact hF j x hx
end Sv
/-- One of a slice's numbers is gone. -/
theorem fn_set {xs : List Int} {i : Nat} (hi : i < xs.length) (y : Int) (j : Nat) : fn (xs.set i y) j = if j = i then y else fn xs j := by
  unfold fn
  rw [List.getD_eq_getElem?_getD, List.getElem?_set]
  by_cases c : i = j
  · subst c
    rw [if_pos rfl, if_pos hi, if_pos rfl]
    rfl
  · rw [if_neg c, if_neg (fun e => c e.symm), List.getD_eq_getElem?_getD]
end Go.Proofs.Ytgphbplmkegdeaa
