/- Several slices of one's own beside each other, whatever their elements: append to one of them keeps the others. -/
import Derived.Test.YtobkepipmmkboaaIn2
import Derived.Deep.Upon
namespace Go.Proofs.Ytobkepipmmkboaa
open Go.RowKit Go.Maps

/-- Two slices have no block in common. -/
def ApartV (v u : Value) : Prop := ∀ k, v.ownBlock = some k → u.ownBlock ≠ some k
theorem ApartV.symm {v u : Value} (h : ApartV v u) : ApartV u v := fun k hk hv => h k hv hk
theorem apart_nil (u : Value) (n c : Nat) : ApartV (.slice none n c) u := fun _ hk => by cases hk
/-- What an append to v, which becomes v', leaves. -/
structure Grew (B : Nat) (w W : World) (v v' : Value) : Prop where
  below : Below B w W
  size : w.heap.size ≤ W.heap.size
  rest : ∀ k, k < w.heap.size → v.ownBlock ≠ some k → W.heap[k]? = w.heap[k]?
  own : ∀ k, v'.ownBlock = some k → v.ownBlock = some k ∨ w.heap.size ≤ k
theorem own_block {w W : World} {B : Nat} {T : TypeId} {s n : Nat} {u : Value} {us : List Value} (h : w.ownsRow B T s u n us) (hb : ∀ k, u.ownBlock = some k → W.heap[k]? = w.heap[k]?) : W.ownsRow B T s u n us := by
  refine ⟨h.1, ?_⟩
  rcases h.2 with hn | ⟨g, cap, cur, rfl, hB, hgg, rest⟩
  · exact .inl hn
  · exact .inr ⟨g, cap, cur, rfl, hB, (hb g rfl).trans hgg, rest⟩
/-- Another slice stays, and stays apart. -/
theorem Grew.keep {B B' : Nat} {w W : World} {v v' u : Value} (h : Grew B w W v v') {T : TypeId} {s n : Nat} {us : List Value} (hu : w.ownsRow B' T s u n us) (ha : ApartV v u) : W.ownsRow B' T s u n us ∧ ApartV v' u := by
  refine ⟨own_block hu fun k hk => h.rest k (World.ownsRow.lt hu k hk).2 fun hv => ha k hv hk, fun k hk hku => ?_⟩
  rcases h.own k hk with h1 | h1
  · exact ha k h1 hku
  · have := (World.ownsRow.lt hu k hku).2
    omega
theorem Grew.trans_below {B : Nat} {w0 w W : World} {v v' : Value} (h0 : Below B w0 w) (h : Grew B w W v v') : Below B w0 W := h0.trans h.below
/-- What must be known of an element's type. -/
structure ElemOf (T TS : TypeId) (s y : Nat) : Prop where
  under : Try.prog.underlying TS = some (.slice T)
  info : ∃ i z, Try.prog.info? T = some i ∧ i.zero = some z ∧ z.cells.size = s ∧ i.size = s ∧ i.bytes = y
  pos : 0 < s
theorem info_elem {T : TypeId} {s y : Nat} {z : Value} (h : (Try.prog.info? T).map (fun i => (i.zero, i.size, i.bytes)) = some (some z, s, y)) (hz : z.cells.size = s) : ∃ i z, Try.prog.info? T = some i ∧ i.zero = some z ∧ z.cells.size = s ∧ i.size = s ∧ i.bytes = y := by
  obtain ⟨i, h1, h2⟩ := Option.map_eq_some_iff.1 h
  simp only [Prod.mk.injEq] at h2
  exact ⟨i, z, h1, h2.1, hz, h2.2⟩
/-- An append of elements that lie somewhere. -/
theorem own_app {T TS : TypeId} {s y : Nat} (hT : ElemOf T TS s y) {B : Nat} {w : World} {v : Value} {n : Nat} {us : List Value} (h : w.ownsRow B T s v n us) {a : Addr} {m c : Nat} {xs : List Value} (hl : xs.length = m * s) (hx : ∀ j u, xs[j]? = some u → w.cell? (a.add j) = some u) (h1 : ∀ u ∈ xs, u.oneCell' = true) (hn : n + m ≤ maxLen) (hy : (n + m) * y ≤ 140737488355328) (hB : B ≤ w.heap.size) :
    ∃ v' W, (∀ ty, (Builtin.append_ #[TS, TS] ty #[v, .slice (some a) m c]).run Try.prog w = .ok v' W) ∧ W.ownsRow B T s v' (n + m) (us ++ xs) ∧ Grew B w W v v' := by
  obtain ⟨i, z, hi, hz, hzs, hz1, hz2⟩ := hT.info
  have key := fun ty => run_append_own_at (P := Try.prog) w B TS ty T i z s y hT.under hi hz hz1 hz2 hzs hT.pos v n us h a m c xs hl hx h1 hn hy hB
  obtain ⟨v', W, hr, h2, h3, h4, h5⟩ := key 0
  refine ⟨v', W, fun ty => hr, h2, ⟨⟨h3.os, h3.tape, h3.output, by have := h3.size; omega, fun k hk => h3.block k (by omega) (fun e => by
    have := (World.ownsRow.lt h k e.symm).1
    omega)⟩, h3.size, fun k hk hne => h3.block k hk (fun e => hne e.symm), fun k hk => ?_⟩⟩
  rcases h5 with e | e
  · exact .inl (by rw [← e]; exact hk)
  · rw [e] at hk
    injection hk with hk
    exact .inr (by omega)
/-- An append of one element in a new block. -/
theorem own_one {T TS : TypeId} {s y : Nat} (hT : ElemOf T TS s y) {B : Nat} {w : World} {v : Value} {n : Nat} {us : List Value} (h : w.ownsRow B T s v n us) {xs : List Value} (hl : xs.length = s) (h1 : ∀ u ∈ xs, u.oneCell' = true) (hn : n + 1 ≤ maxLen) (hy : (n + 1) * y ≤ 140737488355328) (hB : B ≤ w.heap.size) :
    ∃ v' W, (∀ ty, (Builtin.append_ #[TS, TS] ty #[v, .slice (some ⟨w.heap.size, 0, none⟩) 1 1]).run Try.prog (w.alloc (.cells xs.toArray T)) = .ok v' W) ∧ W.ownsRow B T s v' (n + 1) (us ++ xs) ∧ Grew B w W v v' := by
  have bo : Below w.heap.size w (w.alloc (.cells xs.toArray T)) := (Below.refl _ _).alloc (Nat.le_refl _) _
  have h0 : (w.alloc (.cells xs.toArray T)).ownsRow B T s v n us := own_block h fun k hk => bo.block k (World.ownsRow.lt h k hk).2
  obtain ⟨v', W, hr, ho, hg⟩ := own_app hT h0 (a := ⟨w.heap.size, 0, none⟩) (m := 1) (c := 1) (xs := xs) (by omega) (fun j u hu => by
    have hadd : (⟨w.heap.size, 0, none⟩ : Addr).add j = ⟨w.heap.size, j, none⟩ := by unfold Addr.add; split <;> simp_all
    rw [hadd, cell_of_row _ _ j _ _ _ (heap_alloc_new w _)]
    simpa using hu) h1 hn hy (Nat.le_trans hB bo.size)
  refine ⟨v', W, hr, ho, ⟨(bo.mono hB).trans hg.below, Nat.le_trans bo.size hg.size, fun k hk hne => (hg.rest k (Nat.lt_of_lt_of_le hk bo.size) hne).trans (bo.block k hk), fun k hk => ?_⟩⟩
  rcases hg.own k hk with e | e
  · exact .inl e
  · exact .inr (Nat.le_trans bo.size e)
end Go.Proofs.Ytobkepipmmkboaa
