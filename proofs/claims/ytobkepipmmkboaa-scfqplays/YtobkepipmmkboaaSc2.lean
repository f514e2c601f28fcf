/- Package scfq: the link in memory. -/
import Derived.Test.YtobkepipmmkboaaSc1
import Derived.Test.YtobkepipmmkboaaSn1
import Derived.Test.YtobkepipmmkboaaFc1
import Derived.Test.YtobkepipmmkboaaOwn0
namespace Go.Proofs.Ytobkepipmmkboaa
open Go.RowKit Go.Maps

/-- Packets: bytes and tag. -/
def prs (q : List (Int × Int)) : List Value := q.flatMap fun p => [.int .i64 p.1, .int .i64 p.2]
theorem prs_append (a b : List (Int × Int)) : prs (a ++ b) = prs a ++ prs b := List.flatMap_append
theorem prs_cons (x : Int × Int) (r : List (Int × Int)) : prs (x :: r) = [.int .i64 x.1, .int .i64 x.2] ++ prs r := rfl
theorem info_tc {T : TypeId} {s y : Nat} {z : Value} (h : (Try.prog.info? T).map (fun i => (i.zero, i.size, i.bytes)) = some (some z, s, y)) (hz : z.cells.size = s) : ∃ i z, Try.prog.info? T = some i ∧ i.zero = some z ∧ z.cells.size = s ∧ i.size = s ∧ i.bytes = y := by
  obtain ⟨i, h1, h2⟩ := Option.map_eq_some_iff.1 h
  simp only [Prod.mk.injEq] at h2
  exact ⟨i, z, h1, h2.1, hz, h2.2⟩
theorem info_packet : (Try.prog.info? 69).map (fun i => (i.zero, i.size, i.bytes)) = some (some (.agg #[.int .i64 0, .int .i64 0]), 2, 16) := by kernel_rfl
theorem tc_packet : TC 69 58 2 16 := ⟨by kernel_rfl, by kernel_rfl, fun w => by kernel_rfl, info_tc info_packet rfl, by decide⟩
theorem el_sent : ElemOf 35 25 2 16 := ⟨by kernel_rfl, info_elem info_sent rfl, by decide⟩
def three (a b c : Value) : Nat → Value := fun j => if j = 0 then a else if j = 1 then b else c
/-- The cells of flows: weights, last tags, who waits. -/
def flc (a b : Nat → Int) (c : Nat → Value) (j : Nat) : Value := if j % 3 = 0 then .int .i64 (a (j / 3)) else if j % 3 = 1 then .int .i64 (b (j / 3)) else c (j / 3)
theorem flc0 (a b : Nat → Int) (c : Nat → Value) (k : Nat) : flc a b c (k * 3) = .int .i64 (a k) := by
  unfold flc
  rw [if_pos (by omega), Nat.mul_div_cancel _ (by decide)]
theorem flc1 (a b : Nat → Int) (c : Nat → Value) (k : Nat) : flc a b c (k * 3 + 1) = .int .i64 (b k) := by
  unfold flc
  rw [if_neg (by omega), if_pos (by omega), show (k * 3 + 1) / 3 = k by omega]
theorem flc2 (a b : Nat → Int) (c : Nat → Value) (k : Nat) : flc a b c (k * 3 + 2) = c k := by
  unfold flc
  rw [if_neg (by omega), if_neg (by omega), show (k * 3 + 2) / 3 = k by omega]
theorem flc_set0 (a b : Nat → Int) (c : Nat → Value) (k : Nat) (y : Int) (j : Nat) : (if j = k * 3 then .int .i64 y else flc a b c j) = flc (fun i => if i = k then y else a i) b c j := by
  unfold flc
  by_cases e : j = k * 3
  · subst e
    rw [if_pos rfl, if_pos (by omega)]
    dsimp only
    rw [if_pos (by omega)]
  · rw [if_neg e]
    by_cases e0 : j % 3 = 0
    · rw [if_pos e0, if_pos e0]
      dsimp only
      rw [if_neg (by omega)]
    · rw [if_neg e0, if_neg e0]
theorem flc_set1 (a b : Nat → Int) (c : Nat → Value) (k : Nat) (y : Int) (j : Nat) : (if j = k * 3 + 1 then .int .i64 y else flc a b c j) = flc a (fun i => if i = k then y else b i) c j := by
  unfold flc
  by_cases e : j = k * 3 + 1
  · subst e
    rw [if_pos rfl, if_neg (by omega), if_pos (by omega)]
    dsimp only
    rw [if_pos (by omega)]
  · rw [if_neg e]
    by_cases e0 : j % 3 = 0
    · rw [if_pos e0, if_pos e0]
    · rw [if_neg e0, if_neg e0]
      by_cases e1 : j % 3 = 1
      · rw [if_pos e1, if_pos e1]
        dsimp only
        rw [if_neg (by omega)]
      · rw [if_neg e1, if_neg e1]
theorem flc_set2 (a b : Nat → Int) (c : Nat → Value) (k : Nat) (y : Value) (j : Nat) : (if j = k * 3 + 2 then y else flc a b c j) = flc a b (fun i => if i = k then y else c i) j := by
  unfold flc
  by_cases e : j = k * 3 + 2
  · subst e
    rw [if_pos rfl, if_neg (by omega), if_neg (by omega)]
    dsimp only
    rw [if_pos (by omega)]
  · rw [if_neg e]
    by_cases e0 : j % 3 = 0
    · rw [if_pos e0, if_pos e0]
    · rw [if_neg e0, if_neg e0]
      by_cases e1 : j % 3 = 1
      · rw [if_pos e1, if_pos e1]
      · rw [if_neg e1, if_neg e1]
        dsimp only
        rw [if_neg (by omega)]

/-- A link: block lb, its flows in block fb; who waits, in blocks of their own (Aq, cq); what was sent (v); beside it a block eb, which holds o. -/
structure Lk (w wr : World) (lb fb eb : Nat) (o : Obj) (n : Nat) (xs : List Int) (S : List (Nat × Int)) (s : Sc) (v : Value) (Aq : Nat → Option Addr) (cq : Nat → Nat) : Prop where
  below : Below w.heap.size w wr
  far : w.heap.size ≤ lb ∧ w.heap.size ≤ fb ∧ lb ≠ fb ∧ eb ≠ lb ∧ eb ≠ fb
  er : wr.heap[eb]? = some o
  row : wr.rowIs lb 48 3 (three (.int .i64 s.tm) (.slice (some ⟨fb, 0, none⟩) n n) v)
  sent : OwnS w.heap.size wr v S
  sab : ∀ g, v.ownBlock = some g → g ≠ lb ∧ g ≠ fb ∧ g ≠ eb
  flows : wr.rowIs fb 60 (n * 3) (flc (fn xs) s.last (fun k => .slice (Aq k) (s.q k).length (cq k)))
  own : ∀ k, k < n → FifoC 69 2 w.heap.size wr (Aq k) (s.q k).length (prs (s.q k)) (cq k) ∧ (∀ g, Ab (Aq k) g → g ≠ lb ∧ g ≠ fb ∧ g ≠ eb ∧ v.ownBlock ≠ some g) ∧ ∀ i, i < n → i ≠ k → ∀ g, Ab (Aq i) g → ¬ Ab (Aq k) g
namespace Lk
variable {w wr W : World} {lb fb eb n : Nat} {o : Obj} {xs : List Int} {S : List (Nat × Int)} {s : Sc} {v : Value} {Aq : Nat → Option Addr} {cq : Nat → Nat}
theorem elt (h : Lk w wr lb fb eb o n xs S s v Aq cq) : eb < wr.heap.size := (Array.getElem?_eq_some_iff.1 h.er).1
theorem later (h : Lk w wr lb fb eb o n xs S s v Aq cq) (hb : Below wr.heap.size wr W) : Lk w W lb fb eb o n xs S s v Aq cq :=
  ⟨h.below.trans (hb.mono h.below.size), h.far, (hb.block _ h.elt).trans h.er, h.row.of_block (hb.block _ h.row.lt), h.sent.below hb, h.sab, h.flows.of_block (hb.block _ h.flows.lt), fun k hk => ⟨(h.own k hk).1.below hb, (h.own k hk).2⟩⟩
theorem drewN (h : Lk w wr lb fb eb o n xs S s v Aq cq) (q : Nat) : Lk w (wr.drewN q) lb fb eb o n xs S s v Aq cq := h.later (below_drewN (Below.refl _ _) q)
theorem drew (h : Lk w wr lb fb eb o n xs S s v Aq cq) : Lk w wr.drew lb fb eb o n xs S s v Aq cq := h.later (Below.refl _ _).drew
theorem c0 (h : Lk w wr lb fb eb o n xs S s v Aq cq) : wr.cell? ⟨lb, 0, none⟩ = some (.int .i64 s.tm) := h.row.cell (by omega)
theorem c1 (h : Lk w wr lb fb eb o n xs S s v Aq cq) : wr.cell? ⟨lb, 1, none⟩ = some (.slice (some ⟨fb, 0, none⟩) n n) := h.row.cell (by omega)
theorem c2 (h : Lk w wr lb fb eb o n xs S s v Aq cq) : wr.cell? ⟨lb, 2, none⟩ = some v := h.row.cell (by omega)
theorem fz (h : Lk w wr lb fb eb o n xs S s v Aq cq) (j : Nat) : wr.frozen? ⟨lb, j, none⟩ = false := h.row.frozen j
theorem f0 (h : Lk w wr lb fb eb o n xs S s v Aq cq) {k : Nat} (hk : k < n) : wr.cell? ⟨fb, k * 3, none⟩ = some (.int .i64 (fn xs k)) := by rw [h.flows.cell (by omega), flc0]
theorem f1 (h : Lk w wr lb fb eb o n xs S s v Aq cq) {k : Nat} (hk : k < n) : wr.cell? ⟨fb, k * 3 + 1, none⟩ = some (.int .i64 (s.last k)) := by rw [h.flows.cell (by omega), flc1]
theorem f2 (h : Lk w wr lb fb eb o n xs S s v Aq cq) {k : Nat} (hk : k < n) : wr.cell? ⟨fb, k * 3 + 2, none⟩ = some (.slice (Aq k) (s.q k).length (cq k)) := by rw [h.flows.cell (by omega), flc2]
theorem ffz (h : Lk w wr lb fb eb o n xs S s v Aq cq) (j : Nat) : wr.frozen? ⟨fb, j, none⟩ = false := h.flows.frozen j
/-- The first one that waits. -/
theorem head (h : Lk w wr lb fb eb o n xs S s v Aq cq) {k : Nat} (hk : k < n) {b g : Int} {r : List (Int × Int)} (hq : s.q k = (b, g) :: r) : ∃ gb off, Aq k = some ⟨gb, off, none⟩ ∧ wr.cell? ⟨gb, off, none⟩ = some (.int .i64 b) ∧ wr.cell? ⟨gb, off + 1, none⟩ = some (.int .i64 g) := by
  obtain ⟨hf, -⟩ := h.own k hk
  rw [hq] at hf
  obtain ⟨gb, off, e, hc⟩ := hf.cell (by simp)
  exact ⟨gb, off, e, hc 0 _ rfl, hc 1 _ rfl⟩
theorem frame (p : Addr) (u : Value) : wr.heap.size ≤ (wr.setCell p u).heap.size ∧ ∀ g, g ≠ p.block → (wr.setCell p u).heap[g]? = wr.heap[g]? :=
  ⟨by simp [World.setCell], fun g hg => Below.heap_setCell wr p u g hg⟩
/-- A cell of the link's own block, or of the flows', is put. -/
theorem put (h : Lk w wr lb fb eb o n xs S s v Aq cq) {p : Addr} (hp : p.block = lb ∨ p.block = fb) (u : Value) {xs' : List Int} {s' : Sc} (eq : s'.q = s.q)
    (hr : (wr.setCell p u).rowIs lb 48 3 (three (.int .i64 s'.tm) (.slice (some ⟨fb, 0, none⟩) n n) v)) (hf : (wr.setCell p u).rowIs fb 60 (n * 3) (flc (fn xs') s'.last (fun k => .slice (Aq k) (s'.q k).length (cq k)))) : Lk w (wr.setCell p u) lb fb eb o n xs' S s' v Aq cq := by
  obtain ⟨hsz, hbl⟩ := frame (wr := wr) p u
  obtain ⟨f1, f2, f3, f4, f5⟩ := h.far
  have hpn : ∀ g, g ≠ lb → g ≠ fb → g ≠ p.block := fun g h1 h2 e => by rcases hp with hp | hp <;> (rw [hp] at e; omega)
  refine ⟨h.below.setCell (p := p) (by rcases hp with hp | hp <;> (rw [hp]; assumption)) u, h.far, (hbl eb (hpn eb f4 f5)).trans h.er, hr, own_block h.sent fun g hg => hbl g (hpn g (h.sab g hg).1 (h.sab g hg).2.1), h.sab, hf, fun k hk => ?_⟩
  rw [eq]
  exact ⟨(h.own k hk).1.of_blocks hsz fun g hg _ => hbl g (hpn g ((h.own k hk).2.1 g hg).1 ((h.own k hk).2.1 g hg).2.1), (h.own k hk).2⟩
end Lk
end Go.Proofs.Ytobkepipmmkboaa
