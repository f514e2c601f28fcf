/- ScfqFair: what its loop has in memory. -/
import Derived.Test.YtobkepipmmkboaaSn1
namespace Go.Proofs.Ytobkepipmmkboaa
open Go.RowKit Go.Maps

theorem SentIn.of_block {w W : World} {B : Option Addr} {ss : List (Nat × Int)} (h : SentIn w B ss) (hs : w.heap.size ≤ W.heap.size) (hb : ∀ g, Ab B g → W.heap[g]? = w.heap[g]?) : SentIn W B ss := by
  refine ⟨fun h0 => ?_⟩
  obtain ⟨b, off, rfl, hl, hc⟩ := h.at_ h0
  have e := hb b ⟨_, rfl, rfl⟩
  exact ⟨b, off, rfl, Nat.lt_of_lt_of_le hl hs, fun j p hp => ⟨(World.cell?_of_block e).trans (hc j p hp).1, (World.cell?_of_block e).trans (hc j p hp).2⟩⟩
theorem row_none {w : World} {g : Nat} {T : TypeId} {n : Nat} {F : Nat → Value} (h : w.rowIs g T n F) {i : Nat} {v : Value} (hc : w.cell? ⟨g, i, none⟩ = some v) : v = F i := by
  obtain ⟨c, hg, hs, hF⟩ := h
  rw [cell_of_row w g i c T _ hg] at hc
  have hi : i < n := by rw [← hs]; exact (Array.getElem?_eq_some_iff.1 hc).1
  rw [hF i hi] at hc
  injection hc with hc
  exact hc.symm
/-- How many wait, two sums, and what was sent beside them. -/
structure FairM (w wr : World) (gw gg n : Nat) (B : Option Addr) (ss : List (Nat × Int)) (h : Nat → Int) (x0 x1 : Int) : Prop where
  below : Below w.heap.size w wr
  fw : w.heap.size ≤ gw
  fg : w.heap.size ≤ gg
  ne : gw ≠ gg
  roww : wr.rowIs gw 3 n (fun j => .int .i64 (h j))
  rowg : wr.rowIs gg 42 2 (fun j => .int .i64 (if j = 0 then x0 else x1))
  sent : SentIn wr B ss
  nb : 0 < ss.length → ∀ k, Ab B k → k ≠ gw ∧ k ≠ gg
namespace FairM
variable {w wr W : World} {gw gg n : Nat} {B : Option Addr} {ss : List (Nat × Int)} {h : Nat → Int} {x0 x1 : Int}
theorem seat (I : FairM w wr gw gg n B ss h x0 x1) {i : Nat} (hi : i < n) : wr.cell? ⟨gw, i, none⟩ = some (.int .i64 (h i)) ∧ wr.frozen? ⟨gw, i, none⟩ = false := ⟨I.roww.cell hi, I.roww.frozen i⟩
theorem seat0 (I : FairM w wr gw gg n B ss h x0 x1) : wr.cell? ⟨gg, 0, none⟩ = some (.int .i64 x0) ∧ wr.frozen? ⟨gg, 0, none⟩ = false := ⟨I.rowg.cell (by omega), I.rowg.frozen 0⟩
theorem seat1 (I : FairM w wr gw gg n B ss h x0 x1) : wr.cell? ⟨gg, 1, none⟩ = some (.int .i64 x1) ∧ wr.frozen? ⟨gg, 1, none⟩ = false := ⟨I.rowg.cell (by omega), I.rowg.frozen 1⟩
theorem later (I : FairM w wr gw gg n B ss h x0 x1) (hb : Below wr.heap.size wr W) : FairM w W gw gg n B ss h x0 x1 :=
  ⟨I.below.trans (hb.mono I.below.size), I.fw, I.fg, I.ne, I.roww.of_block (hb.block _ I.roww.lt), I.rowg.of_block (hb.block _ I.rowg.lt), I.sent.below hb, I.nb⟩
/-- What was sent lies elsewhere. -/
theorem kept (hs : SentIn wr B ss) (nb : 0 < ss.length → ∀ k, Ab B k → k ≠ gw ∧ k ≠ gg) {p : Addr} (hp : p.block = gw ∨ p.block = gg) (u : Value) : SentIn (wr.setCell p u) B ss := by
  by_cases c : 0 < ss.length
  · refine hs.of_block (by simp [World.setCell]) fun g hg => Below.heap_setCell wr p u g ?_
    have := nb c g hg
    rcases hp with hp | hp <;> rw [hp]
    · exact this.1
    · exact this.2
  · obtain rfl := List.eq_nil_of_length_eq_zero (Nat.eq_zero_of_not_pos c)
    exact SentIn.nil _ _
theorem put (I : FairM w wr gw gg n B ss h x0 x1) (k : Nat) (x : Int) {h' : Nat → Int} (e : ∀ j, h' j = if j = k then x else h j) : FairM w (wr.setCell ⟨gw, k, none⟩ (.int .i64 x)) gw gg n B ss h' x0 x1 :=
  ⟨I.below.setCell I.fw _, I.fw, I.fg, I.ne, (I.roww.set k _).congr fun j _ => by
    rw [e]
    by_cases c : j = k
    · rw [if_pos c, if_pos c]
    · rw [if_neg c, if_neg c], I.rowg.of_block (Below.heap_setCell wr ⟨gw, k, none⟩ _ gg I.ne.symm), kept I.sent I.nb (.inl rfl) _, I.nb⟩
theorem put0 (I : FairM w wr gw gg n B ss h x0 x1) (x : Int) : FairM w (wr.setCell ⟨gg, 0, none⟩ (.int .i64 x)) gw gg n B ss h x x1 :=
  ⟨I.below.setCell I.fg _, I.fw, I.fg, I.ne, I.roww.of_block (Below.heap_setCell wr ⟨gg, 0, none⟩ _ gw I.ne), (I.rowg.set 0 _).congr fun j _ => by
    by_cases c : j = 0
    · rw [if_pos c, if_pos c]
    · rw [if_neg c, if_neg c, if_neg c], kept I.sent I.nb (.inr rfl) _, I.nb⟩
theorem put1 (I : FairM w wr gw gg n B ss h x0 x1) (x : Int) : FairM w (wr.setCell ⟨gg, 1, none⟩ (.int .i64 x)) gw gg n B ss h x0 x :=
  ⟨I.below.setCell I.fg _, I.fw, I.fg, I.ne, I.roww.of_block (Below.heap_setCell wr ⟨gg, 1, none⟩ _ gw I.ne), (I.rowg.set 1 _).congr fun j hj => by
    by_cases c : j = 1
    · rw [if_pos c, if_neg (by omega)]
    · rw [if_neg c, if_pos (by omega), if_pos (by omega)], kept I.sent I.nb (.inr rfl) _, I.nb⟩
theorem congr (I : FairM w wr gw gg n B ss h x0 x1) {h' : Nat → Int} (e : ∀ j, h' j = h j) {y0 y1 : Int} (e0 : y0 = x0) (e1 : y1 = x1) : FairM w wr gw gg n B ss h' y0 y1 := by
  subst e0 e1
  exact ⟨I.below, I.fw, I.fg, I.ne, I.roww.congr fun j _ => by rw [e], I.rowg, I.sent, I.nb⟩
/-- Two blocks are laid, and something is called. -/
theorem start {w w4 : World} (n : Nat) {B : Option Addr} {ss : List (Nat × Int)} {h : Nat → Int} (hb : Below ((w.alloc (.cells (madeCells #[.int .i64 0] n) 3)).alloc (.cells #[.int .i64 0, .int .i64 0] 42)).heap.size ((w.alloc (.cells (madeCells #[.int .i64 0] n) 3)).alloc (.cells #[.int .i64 0, .int .i64 0] 42)) w4) (hs : SentIn w4 B ss) (h1 : ∀ s ∈ ss, 1 ≤ s.2) (h0 : ∀ k, h k = 0) : FairM w w4 w.heap.size (w.heap.size + 1) n B ss h 0 0 := by
  have s1 : (w.alloc (.cells (madeCells #[.int .i64 0] n) 3)).heap.size = w.heap.size + 1 := by simp
  have b1 : Below w.heap.size w (w.alloc (.cells (madeCells #[.int .i64 0] n) 3)) := (Below.refl _ _).alloc (Nat.le_refl _) _
  have b2 : Below (w.heap.size + 1) (w.alloc (.cells (madeCells #[.int .i64 0] n) 3)) ((w.alloc (.cells (madeCells #[.int .i64 0] n) 3)).alloc (.cells #[.int .i64 0, .int .i64 0] 42)) := (Below.refl _ _).alloc (by rw [s1]; exact Nat.le_refl _) _
  have r1 := World.rowIs_made w (.int .i64 0) n 3
  have r2 := World.rowIs_alloc (w.alloc (.cells (madeCells #[.int .i64 0] n) 3)) #[.int .i64 0, .int .i64 0] 42 (fun _ => .int .i64 0) (fun i hi => by
    have hi : i < 2 := hi
    rcases (by omega : i = 0 ∨ i = 1) with rfl | rfl <;> rfl)
  rw [s1] at r2
  have s2 := b2.size
  have k1 := (r1.of_block (b2.block _ (by omega))).of_block (hb.block _ (by omega))
  have k2 := r2.of_block (hb.block _ r2.lt)
  refine ⟨(b1.trans (b2.mono (by omega))).trans (hb.mono (by omega)), Nat.le_refl _, by omega, by omega, k1.congr fun j _ => by rw [h0], k2.congr fun j _ => by rw [ite_self], hs, fun hp k hk => ?_⟩
  obtain ⟨b, off, rfl, hl, hc⟩ := hs.at_ hp
  obtain ⟨a, e, rfl⟩ := hk
  injection e with e
  subst e
  have hv := (hc 0 _ (List.getElem?_eq_getElem hp)).2
  have hm := h1 _ (List.getElem_mem hp)
  refine ⟨fun e => ?_, fun e => ?_⟩
  · dsimp only at e
    subst e
    have := row_none k1 hv
    injection this with _ this
    omega
  · dsimp only at e
    subst e
    have := row_none k2 hv
    injection this with _ this
    omega
end FairM
end Go.Proofs.Ytobkepipmmkboaa
