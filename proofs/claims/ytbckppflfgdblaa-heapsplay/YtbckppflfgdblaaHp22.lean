/- The document's own answer: what it keeps while it plays, and what each step does to it. -/
import Derived.Test.YtbckppflfgdblaaHp21
import Derived.Test.YtbckppflfgdblaaHp15
namespace Go.Proofs.Ytbckppflfgdblaa
open Go.RowKit Go.Maps

theorem Try.info28 : (Try.prog.info? 28).map (fun i => (i.zero, i.size, i.bytes)) = some (some (.int .i64 0), 1, 8) := by kernel_rfl
theorem Try.underlying23 : Try.prog.underlying 23 = some (.slice 28) := by kernel_rfl

theorem nums_append {t st : TypeId} (hu : Try.prog.underlying st = some (.slice t)) (hinfo : (Try.prog.info? t).map (fun i => (i.zero, i.size, i.bytes)) = some (some (.int .i64 0), 1, 8)) {B : Nat} {w W : World} {P : Value} {ps : List Int} (h : NumsIs t B w P ps) (hB : B ≤ w.heap.size) (hn : ps.length + 1 ≤ 5000000000000) (x : Int) (hW : W = w.alloc (.cells #[.int .i64 x] t)) :
    ∃ g cap W2, (Builtin.append_ #[st, st] st #[P, .slice (some ⟨w.heap.size, 0, none⟩) 1 1]).run Try.prog W = .ok (.slice (some ⟨g, 0, none⟩) (ps.length + 1) cap) W2 ∧ NumsIs t B W2 (.slice (some ⟨g, 0, none⟩) (ps.length + 1) cap) (ps ++ [x]) ∧ Chg (fun k => P.ownBlock = some k) w W2 ∧ (P.ownBlock = some g ∨ w.heap.size ≤ g) := by
  subst hW
  obtain ⟨i0, hi, hz0, hz1, hz2⟩ := info_parts hinfo
  have hsz : (w.alloc (.cells #[.int .i64 x] t)).heap.size = w.heap.size + 1 := by simp
  obtain ⟨g, cap', W, hr, h2, h3, h4, _⟩ := run_append_lies (P := Try.prog) (w.alloc (.cells #[.int .i64 x] t)) st st B t i0 (.int .i64 0) 1 8 hu hi hz0 hz1 hz2 rfl (by decide) P ps.length (ints ps) (World.ownsRow.alloc h _)
    ⟨w.heap.size, 0, none⟩ 1 1 [.int .i64 x] rfl (World.news_of_block (heap_alloc_new w _)) (by intro u hu; simp at hu; subst hu; rfl) (by decide) (by simp only [maxLen]; omega) (by omega) (by rw [hsz]; omega) _ rfl
  refine ⟨g, cap', W, hr, ?_, ((Chg.refl _ w).alloc _).trans (Chg.of_grown h3 (fun k e => e)), ?_⟩
  · unfold NumsIs
    rw [List.length_append, List.length_singleton]
    simpa [ints] using h2
  · rcases h4 with h4 | h4
    · exact .inl h4
    · exact .inr (by rw [h4, hsz]; omega)

theorem NumsIs.typed {t : TypeId} {B : Nat} {w : World} {P : Value} {ps : List Int} (h : NumsIs t B w P ps) {k : Nat} (hk : P.ownBlock = some k) : ∃ c, w.heap[k]? = some (.cells c t (0, 0)) := by
  rcases h.2 with ⟨rfl, _⟩ | ⟨g, cap, cur, rfl, _, hg, _⟩
  · cases hk
  · simp only [Value.ownBlock, Option.some.injEq] at hk
    subst hk
    exact ⟨cur, hg⟩
theorem NumsIs.chg {t : TypeId} {B : Nat} {w w' : World} {P : Value} {ps : List Int} {S : Nat → Prop} (h : NumsIs t B w P ps) (hc : Chg S w w') (hs : ∀ k, P.ownBlock = some k → ¬ S k) : NumsIs t B w' P ps := by
  refine ⟨h.1, ?_⟩
  rcases h.2 with hn | ⟨g, cap, cur, rfl, hb, hgg, rest⟩
  · exact .inl hn
  · exact .inr ⟨g, cap, cur, rfl, hb, (hc.block g (World.ownsRow.lt h g rfl).2 (hs g rfl)).trans hgg, rest⟩
theorem kmap_typed {w : World} {b n k : Nat} {M : Held} {c : Array Value} {u : TypeId} {fr : Nat × Nat} (h : KMap w b n M) (hk : w.heap[k]? = some (.cells c u fr)) : b ≠ k := by
  rintro rfl
  obtain ⟨D, ⟨es, clock, hb, _⟩, _⟩ := h
  rw [hb] at hk
  injection hk with hk
  cases hk
theorem cells_ne {w : World} {a b : Nat} {c d : Array Value} {t u : TypeId} {f g : Nat × Nat} (h : w.heap[a]? = some (.cells c t f)) (k : w.heap[b]? = some (.cells d u g)) (hne : t ≠ u) : a ≠ b := by
  rintro rfl
  rw [h] at k
  injection k with k
  injection k with _ e
  exact hne e

/-- The table in block b (in a variable in block kb), the error codes, what was popped. -/
structure CP (B b kb : Nat) (E P : Value) (es ps : List Int) (n : Nat) (M : Held) (w : World) : Prop where
  km : KMap w b n M
  box : w.heap[kb]? = some (.cells #[.map (some b)] 58 (0, 0))
  er : NumsIs 28 B w E es
  po : NumsIs 3 B w P ps
  base : B ≤ w.heap.size
  bB : B ≤ b
namespace CP
variable {B b kb : Nat} {E P : Value} {es ps : List Int} {n : Nat} {M : Held} {w w' : World}
theorem cell (h : CP B b kb E P es ps n M w) : w.cell? ⟨kb, 0, none⟩ = some (.map (some b)) := cell_of_row _ _ _ _ _ _ h.box
theorem klt (h : CP B b kb E P es ps n M w) : kb < w.heap.size := by
  rcases Nat.lt_or_ge kb w.heap.size with hlt | hge
  · exact hlt
  · have := h.box; rw [Array.getElem?_eq_none hge] at this; cases this
theorem below (h : CP B b kb E P es ps n M w) (hb : Below w.heap.size w w') : CP B b kb E P es ps n M w' :=
  ⟨h.km.of_block (hb.block b h.km.lt), (hb.block kb h.klt).trans h.box, h.er.below hb, h.po.below hb, Nat.le_trans h.base hb.size, h.bB⟩
/-- The table has turned. -/
theorem turn {n' : Nat} {M' : Held} (h : CP B b kb E P es ps n M w) (hk : KMap w' b n' M') (ht : w.mapTurned w' b) : CP B b kb E P es ps n' M' w' ∧ Below B w w' := by
  have hc : Chg (fun k => k = b) w w' := chg_turned ht rfl
  refine ⟨⟨hk, (hc.block kb h.klt (fun e => kmap_typed h.km h.box e.symm)).trans h.box, h.er.chg hc (fun k hk' e => ?_), h.po.chg hc (fun k hk' e => ?_), Nat.le_trans h.base hc.size, h.bB⟩, hc.below h.base (fun k e => by rw [e]; exact h.bB)⟩
  · obtain ⟨c, hcc⟩ := h.er.typed hk'; exact kmap_typed h.km hcc e.symm
  · obtain ⟨c, hcc⟩ := h.po.typed hk'; exact kmap_typed h.km hcc e.symm
theorem store (h : CP B b kb E P es ps n M w) {x : Int} (k : Int × Int) (hx : I64 x) (hn : n < maxLen) {n' : Nat} (hn' : n' = if (M x).isSome then n else n + 1) :
    ∃ w', (Instr.mapUpdate 58 (.map (some b)) (.int .i64 x) (.agg #[.int .u64 k.1, .int .u64 k.2])).run Try.prog w = .ok () w' ∧ CP B b kb E P es ps n' (updM M x k) w' ∧ Below B w w' := by
  obtain ⟨w', hr, hk, ht⟩ := h.km.store k hx hn hn'
  exact ⟨w', hr, h.turn hk ht⟩
theorem drop (h : CP B b kb E P es ps n M w) {x : Int} (hx : I64 x) (ty : TypeId) {n' : Nat} (hn' : n' + (if (M x).isSome then 1 else 0) = n) :
    ∃ w', (Builtin.delete_ #[58, 3] ty #[.map (some b), .int .i64 x]).run Try.prog w = .ok (.tuple #[]) w' ∧ CP B b kb E P es ps n' (delM M x) w' ∧ Below B w w' := by
  obtain ⟨w', hr, hk, ht⟩ := h.km.drop hx ty hn'
  exact ⟨w', hr, h.turn hk ht⟩
/-- What else turns: rows of numbers. -/
theorem chg {S : Nat → Prop} (h : CP B b kb E P es ps n M w) (hc : Chg S w w') (hs : ∀ k, S k → ∃ c t, (t = 28 ∨ t = 3) ∧ w.heap[k]? = some (.cells c t (0, 0))) : KMap w' b n M ∧ w'.heap[kb]? = some (.cells #[.map (some b)] 58 (0, 0)) := by
  refine ⟨h.km.of_block (hc.block b h.km.lt (fun e => ?_)), (hc.block kb h.klt (fun e => ?_)).trans h.box⟩
  · obtain ⟨c, t, _, hcc⟩ := hs b e; exact kmap_typed h.km hcc rfl
  · obtain ⟨c, t, ht, hcc⟩ := hs kb e
    exact cells_ne h.box hcc (by rcases ht with rfl | rfl <;> decide) rfl
theorem err (h : CP B b kb E P es ps n M w) (hn : es.length + 1 ≤ 5000000000000) (x : Int) {H : Nat} (hH : w.heap.size = H) :
    ∃ g cap W2, (Builtin.append_ #[23, 23] 23 #[E, .slice (some ⟨H, 0, none⟩) 1 1]).run Try.prog (w.alloc (.cells #[.int .i64 x] 28)) = .ok (.slice (some ⟨g, 0, none⟩) (es.length + 1) cap) W2 ∧
      CP B b kb (.slice (some ⟨g, 0, none⟩) (es.length + 1) cap) P (es ++ [x]) ps n M W2 ∧ Below B w W2 := by
  subst hH
  obtain ⟨g, cap, W2, hr, h2, h3, _⟩ := nums_append Try.underlying23 Try.info28 h.er h.base hn x rfl
  obtain ⟨k1, k2⟩ := h.chg h3 (fun k hk => by obtain ⟨c, hc⟩ := h.er.typed hk; exact ⟨c, _, .inl rfl, hc⟩)
  refine ⟨g, cap, W2, hr, ⟨k1, k2, h2, h.po.chg h3 (fun k hk e => ?_), Nat.le_trans h.base h3.size, h.bB⟩, h3.below h.base (fun k hk => (World.ownsRow.lt h.er k hk).1)⟩
  obtain ⟨c, hc⟩ := h.po.typed hk
  obtain ⟨d, hd⟩ := h.er.typed e
  exact cells_ne hc hd (by decide) rfl
theorem pop (h : CP B b kb E P es ps n M w) (hn : ps.length + 1 ≤ 5000000000000) (x : Int) :
    ∃ g cap W2, (Builtin.append_ #[24, 24] 24 #[P, .slice (some ⟨w.heap.size, 0, none⟩) 1 1]).run Try.prog (w.alloc (.cells #[.int .i64 x] 3)) = .ok (.slice (some ⟨g, 0, none⟩) (ps.length + 1) cap) W2 ∧
      CP B b kb E (.slice (some ⟨g, 0, none⟩) (ps.length + 1) cap) es (ps ++ [x]) n M W2 ∧ Below B w W2 := by
  obtain ⟨g, cap, W2, hr, h2, h3, _⟩ := nums_append Try.underlying24 Try.info3 h.po h.base hn x rfl
  obtain ⟨k1, k2⟩ := h.chg h3 (fun k hk => by obtain ⟨c, hc⟩ := h.po.typed hk; exact ⟨c, _, .inr rfl, hc⟩)
  refine ⟨g, cap, W2, hr, ⟨k1, k2, h.er.chg h3 (fun k hk e => ?_), h2, Nat.le_trans h.base h3.size, h.bB⟩, h3.below h.base (fun k hk => (World.ownsRow.lt h.po k hk).1)⟩
  obtain ⟨c, hc⟩ := h.er.typed hk
  obtain ⟨d, hd⟩ := h.po.typed e
  exact cells_ne hc hd (by decide) rfl
end CP

end Go.Proofs.Ytbckppflfgdblaa
