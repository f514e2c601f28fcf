/- (*queue).push inserts an item, or tells that its Id is present. -/
import Derived.Test.YtbckppflfgdblaaHp6
namespace Go.Proofs.Ytbckppflfgdblaa
open Go.RowKit Go.Maps

/-- What a call may turn: the queue's own blocks, and from block B on what has a type of T. -/
def Own (T : TypeId → Prop) (B q m : Nat) (w : World) (k : Nat) : Prop := k = q ∨ k = m ∨ (B ≤ k ∧ ∃ c t fr, T t ∧ w.heap[k]? = some (.cells c t fr))
def Fr (T : TypeId → Prop) (B q m : Nat) (w w' : World) : Prop := Chg (Own T B q m w) w w'
def T71 (t : TypeId) : Prop := t = 71
def T713 (t : TypeId) : Prop := t = 71 ∨ t = 3
namespace Fr
variable {T U : TypeId → Prop} {B q m : Nat} {a b c : World}
theorem refl (w : World) : Fr T B q m w w := Chg.refl _ _
theorem trans (h : Fr T B q m a b) (k : Fr T B q m b c) : Fr T B q m a c :=
  ⟨k.os.trans h.os, k.tape.trans h.tape, k.output.trans h.output, Nat.le_trans h.size k.size, fun i hi hn => by
    have e := h.block i hi hn
    refine (k.block i (Nat.lt_of_lt_of_le hi h.size) (fun ho => hn ?_)).trans e
    rcases ho with e1 | e1 | ⟨hB, cs, t, fr, hT, hc⟩
    · exact .inl e1
    · exact .inr (.inl e1)
    · exact .inr (.inr ⟨hB, cs, t, fr, hT, e.symm.trans hc⟩)⟩
theorem mono (h : Fr T B q m a b) (hT : ∀ t, T t → U t) : Fr U B q m a b := Chg.mono h (fun k _ ho => by
  rcases ho with e1 | e1 | ⟨hB, cs, t, fr, ht, hc⟩
  · exact .inl e1
  · exact .inr (.inl e1)
  · exact .inr (.inr ⟨hB, cs, t, fr, hT t ht, hc⟩))
theorem of_below (h : Below a.heap.size a b) : Fr T B q m a b := Chg.of_below h _
theorem below (h : Fr T B q m a b) (hB : B ≤ a.heap.size) (hq : B ≤ q) (hm : B ≤ m) : Below B a b :=
  Chg.below h hB (fun k ho => by
    rcases ho with e1 | e1 | ⟨hB, _⟩
    · omega
    · omega
    · exact hB)
/-- A block of another type stays. -/
theorem row (h : Fr T B q m a b) {g n : Nat} {t : TypeId} {f : Nat → Value} (hr : a.rowIs g t n f) (ht : ¬ T t) (hq : g ≠ q) (hm : g ≠ m) : b.rowIs g t n f := by
  refine hr.of_block (h.block g hr.lt (fun ho => ?_))
  rcases ho with e1 | e1 | ⟨_, cs, t', fr, hT, hc⟩
  · exact hq e1
  · exact hm e1
  · obtain ⟨c, hb, _⟩ := hr
    rw [hb] at hc
    injection hc with hc
    injection hc with _ e
    rw [← e] at hT
    exact ht hT
end Fr

theorem own_row {w : World} {g n B q m : Nat} {t : TypeId} {f : Nat → Value} {T : TypeId → Prop} (hr : w.rowIs g t n f) (ht : T t) (hB : B ≤ g) : Own T B q m w g := by
  obtain ⟨c, hb, _⟩ := hr
  exact .inr (.inr ⟨hB, c, t, _, ht, hb⟩)
theorem fr_of_qgm {w w' : World} {q g m cap n B : Nat} {P : Value} {f : Nat → It} (h : QH w q g m cap n P f) (hB : B ≤ g) (hc : Chg (fun k => k = q ∨ k = g ∨ k = m) w w') : Fr T71 B q m w w' := Chg.mono hc (fun k _ ho => by
  obtain ⟨F, hF, _⟩ := h.items
  rcases ho with e | e | e
  · exact .inl e
  · rw [e]; exact own_row hF rfl hB
  · exact .inr (.inl e))

namespace Qs
variable {B : Nat} {w w' : World} {q m n : Nat} {P : Value} {f : Nat → It}
theorem c0 (h : Qs B w q m n P f) : ∃ A cap, w.cell? ⟨q, 0, none⟩ = some (.slice A n cap) ∧ (A = none → n = 0) ∧ n ≤ cap ∧ cap ≤ 9223372036854775807 := by
  rcases h with ⟨rfl, hr, _⟩ | ⟨g, cap, _, hQ⟩
  · exact ⟨none, 0, hr.cell (by omega), fun _ => rfl, by omega, by omega⟩
  · exact ⟨_, _, hQ.c0, fun e => (by cases e), hQ.ncap, hQ.capm⟩
theorem row (h : Qs B w q m n P f) : ∃ A cap, w.rowIs q 55 3 (tri (.slice A n cap) (.map (some m)) P) := by
  rcases h with ⟨rfl, hr, _⟩ | ⟨g, cap, _, hQ⟩
  · exact ⟨none, 0, hr⟩
  · exact ⟨_, _, hQ.row⟩
theorem c1 (h : Qs B w q m n P f) : w.cell? ⟨q, 1, none⟩ = some (.map (some m)) := by obtain ⟨A, cap, hr⟩ := h.row; exact hr.cell (by omega)
theorem c2 (h : Qs B w q m n P f) : w.cell? ⟨q, 2, none⟩ = some P := by obtain ⟨A, cap, hr⟩ := h.row; exact hr.cell (by omega)
theorem fz (h : Qs B w q m n P f) (j : Nat) : w.frozen? ⟨q, j, none⟩ = false := by obtain ⟨A, cap, hr⟩ := h.row; exact hr.frozen j
theorem lt (h : Qs B w q m n P f) : q < w.heap.size := by obtain ⟨A, cap, hr⟩ := h.row; exact hr.lt
theorem place (h : Qs B w q m n P f) : ∃ p, MapIs w m n p ∧ PlaceOk p f n := by
  rcases h with ⟨rfl, _, hp⟩ | ⟨g, cap, _, hQ⟩
  · exact hp
  · exact hQ.place
theorem qm (h : Qs B w q m n P f) : q ≠ m := by obtain ⟨A, cap, hr⟩ := h.row; obtain ⟨p, hp, _⟩ := h.place; exact row_ne_map hr hp
theorem ids (h : Qs B w q m n P f) : ∀ j, j < n → I64 (f j).id := by
  rcases h with ⟨rfl, _, hp⟩ | ⟨g, cap, _, hQ⟩
  · intro j hj; omega
  · exact hQ.ids
theorem below (h : Qs B w q m n P f) (hb : Below w.heap.size w w') : Qs B w' q m n P f := by
  rcases h with ⟨h0, hr, p, hp, hpo⟩ | ⟨g, cap, hg, hQ⟩
  · exact .inl ⟨h0, hr.of_block (hb.block q hr.lt), p, hp.of_block (hb.block m hp.lt), hpo⟩
  · exact .inr ⟨g, cap, hg, hQ.below hb⟩
end Qs

theorem push_mid {B : Nat} {w : World} {q m n bx : Nat} {P : Value} {f : Nat → It} (h : Qs B w q m n P f) (hn : n + 1 ≤ 5000000000000) (hB : B ≤ w.heap.size) (x : It) (hx : I64 x.id) (hne : ∀ j, j < n → (f j).id ≠ x.id) {A : Option Addr} {cap : Nat} (hA : w.cell? ⟨q, 0, none⟩ = some (.slice A n cap))
    (hbx : w.cell? ⟨bx, 0, none⟩ = some (.int .i64 x.id)) (hbA : ¬ Ab A bx) (hbq : bx ≠ q) (hbl : bx < w.heap.size) :
    ∃ g cap' W, (Builtin.append_ #[53, 53] 53 #[.slice A n cap, .slice (some ⟨w.heap.size, 0, none⟩) 1 1]).run Try.prog (w.alloc (.cells #[.int .i64 x.id, .int .u64 x.hi, .int .u64 x.lo] 71)).drew = .ok (.slice (some ⟨g, 0, none⟩) (n + 1) cap') W ∧
      W.cell? ⟨q, 0, none⟩ = some (.slice A n cap) ∧ W.frozen? ⟨q, 0, none⟩ = false ∧
      (W.setCell ⟨q, 0, none⟩ (.slice (some ⟨g, 0, none⟩) (n + 1) cap')).cell? ⟨q, 1, none⟩ = some (.map (some m)) ∧ (W.setCell ⟨q, 0, none⟩ (.slice (some ⟨g, 0, none⟩) (n + 1) cap')).cell? ⟨bx, 0, none⟩ = some (.int .i64 x.id) ∧
      ∃ W4, (Instr.mapUpdate 52 (.map (some m)) (.int .i64 x.id) (.int .i64 (n : Int))).run Try.prog (W.setCell ⟨q, 0, none⟩ (.slice (some ⟨g, 0, none⟩) (n + 1) cap')).drew = .ok () W4 ∧
      B ≤ g ∧ QH W4 q g m cap' (n + 1) P (push1 f n x) ∧ Fr T71 B q m w W4 := by
  obtain ⟨g, cap', W, hr, hc, hBg, hnc, hcm, F, hF, hf⟩ := push_append h hn hB x hA
  obtain ⟨A', cap0, hrow⟩ := h.row
  obtain ⟨p, hp, hpo⟩ := h.place
  have hA' := hrow.cell (i := 0) (by omega)
  rw [hA] at hA'
  simp only [tri, if_true, Option.some.injEq, Value.slice.injEq] at hA'
  obtain ⟨rfl, _, rfl⟩ := hA'
  -- neither the queue's block nor the map's is the items'
  have hA2 : ∀ k, Ab A k → k ≠ q ∧ k ≠ m ∧ Own T71 B q m w k := by
    rintro k ⟨a, rfl, rfl⟩
    rcases h with ⟨rfl, hr0, _⟩ | ⟨g0, cap1, hg0, hQ⟩
    · have := hr0.cell (i := 0) (by omega)
      rw [hA] at this
      simp [tri] at this
    · have := hQ.c0
      rw [hA] at this
      simp only [Option.some.injEq, Value.slice.injEq] at this
      obtain ⟨rfl, _, _⟩ := this
      obtain ⟨F0, hF0, _⟩ := hQ.items
      exact ⟨fun e => hQ.qg e.symm, hQ.gm, own_row hF0 rfl hg0⟩
  have hqA : ¬ Ab A q := fun e => (hA2 q e).1 rfl
  have hmA : ¬ Ab A m := fun e => (hA2 m e).2.1 rfl
  have hrow1 := hrow.of_block (hc.block q hrow.lt hqA)
  have hp1 : MapIs W m n p := hp.of_block (hc.block m hp.lt hmA)
  have hbx1 : W.cell? ⟨bx, 0, none⟩ = some (.int .i64 x.id) := (World.cell?_of_block (hc.block bx hbl hbA)).trans hbx
  have hqm := h.qm
  have hqg : g ≠ q := row_ne hF hrow1 (by decide)
  have hgm : g ≠ m := row_ne_map hF hp1
  have hrow2 := (hrow1.set 0 (.slice (some ⟨g, 0, none⟩) (n + 1) cap')).congr (g := tri (.slice (some ⟨g, 0, none⟩) (n + 1) cap') (.map (some m)) P) (fun i hi => by unfold tri; by_cases e : i = 0 <;> simp [e])
  have hF2 := hF.setOther (a := ⟨q, 0, none⟩) hqg (.slice (some ⟨g, 0, none⟩) (n + 1) cap')
  have hc2 : Chg (fun k => k = q) W (W.setCell ⟨q, 0, none⟩ (.slice (some ⟨g, 0, none⟩) (n + 1) cap')) := (Chg.refl (fun k => k = q) W).set (p := ⟨q, 0, none⟩) (.inl rfl) _
  have hp2 : MapIs (W.setCell ⟨q, 0, none⟩ (.slice (some ⟨g, 0, none⟩) (n + 1) cap')) m n p := hp1.of_block (hc2.block m hp1.lt (fun e => hqm e.symm))
  have hbx2 : (W.setCell ⟨q, 0, none⟩ (.slice (some ⟨g, 0, none⟩) (n + 1) cap')).cell? ⟨bx, 0, none⟩ = some (.int .i64 x.id) := (World.cell?_of_block (hc2.block bx (Nat.lt_of_lt_of_le hbl hc.size) hbq)).trans hbx1
  obtain ⟨W4, r4, m4, t4⟩ := (show MapIs (W.setCell ⟨q, 0, none⟩ (.slice (some ⟨g, 0, none⟩) (n + 1) cap')).drew m n p from hp2.of_block rfl).store (x := x.id) (v := (n : Int)) hx (I64.of (by omega) (by omega)) (by unfold maxLen; omega) (n' := n + 1) (by
    have : p x.id = none := by
      cases hpx : p x.id with
      | none => rfl
      | some v => obtain ⟨j, hj, e, _⟩ := (hpo _ _).1 hpx; exact absurd e (hne j hj)
    rw [this]; rfl)
  have k4 : Chg (fun k => k = m) (W.setCell ⟨q, 0, none⟩ (.slice (some ⟨g, 0, none⟩) (n + 1) cap')) W4 := by
    have := chg_turned (S := fun k => k = m) t4 rfl
    exact ⟨this.os, this.tape, this.output, this.size, this.block⟩
  refine ⟨g, cap', W, hr, hrow1.cell (by omega), hrow1.frozen 0, hrow2.cell (by omega), hbx2, W4, r4, hBg, ⟨hrow2.of_block (k4.block q hrow2.lt hqm), hnc, hcm, hn, ⟨F, hF2.of_block (k4.block g hF2.lt hgm), hf⟩, fun j hj => ?_, ⟨_, m4, hpo.push1 hne⟩⟩, ?_⟩
  · by_cases e : j = n
    · rw [e, push1_n]; exact hx
    · rw [push1_o f x e]; exact h.ids j (by omega)
  · refine Chg.mono (S := fun k => k = q ∨ k = m ∨ Ab A k) ?_ ?_
    · exact (hc.mono (fun _ _ e => .inr (.inr e))).trans ((hc2.mono (fun _ _ e => .inl e)).trans (k4.mono (fun _ _ e => .inr (.inl e))))
    · rintro k _ (e | e | e)
      · exact .inl e
      · exact .inr (.inl e)
      · exact (hA2 k e).2.2

/-- The queue holds M: n items. -/
def QT (B q m : Nat) (P : Value) (n : Nat) (M : Held) (w : World) : Prop := ∃ f, Qs B w q m n P f ∧ Heap f n ∧ Rep f n M
theorem QT.below {B q m n : Nat} {P : Value} {M : Held} {w w' : World} (h : QT B q m P n M w) (hb : Below w.heap.size w w') : QT B q m P n M w' := by
  obtain ⟨f, h1, h2⟩ := h
  exact ⟨f, h1.below hb, h2⟩

end Go.Proofs.Ytbckppflfgdblaa
