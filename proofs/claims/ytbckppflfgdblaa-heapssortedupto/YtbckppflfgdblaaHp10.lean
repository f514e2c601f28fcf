/- (*queue).pop removes the first item, or tells that there is none. -/
import Derived.Test.YtbckppflfgdblaaHp9
namespace Go.Proofs.Ytbckppflfgdblaa
open Go.RowKit Go.Maps

/-! ### the first item -/
def Least (M : Held) (x : Int) : Prop := ∃ k, M x = some k ∧ ∀ y l, M y = some l → ¬ Bef ⟨y, l.1, l.2⟩ ⟨x, k.1, k.2⟩
theorem Least.uniq {M : Held} {x y : Int} (h : Least M x) (k : Least M y) : x = y := by
  obtain ⟨a, ha, h2⟩ := h
  obtain ⟨b, hb, k2⟩ := k
  have := Bef.tri (h2 y b hb) (k2 x a ha)
  injection this with e
  exact e.symm
open Classical in
noncomputable def least (M : Held) : Int := if h : ∃ x, Least M x then Classical.choose h else 0
theorem least_eq {M : Held} {x : Int} (h : Least M x) : least M = x := by
  have hx : ∃ x, Least M x := ⟨x, h⟩
  unfold least
  rw [dif_pos hx]
  exact (Classical.choose_spec hx).uniq h
theorem rep_least {f : Nat → It} {n : Nat} {M : Held} (hh : Heap f (n + 1)) (hr : Rep f (n + 1) M) : Least M (f 0).id := by
  refine ⟨(f 0).key, hr.held 0 (by omega), fun y l hy => ?_⟩
  obtain ⟨j, hj, e⟩ := hr.all y l hy
  have h1 := hr.held j hj
  rw [e, hy] at h1
  injection h1 with h1
  have h2 := hh.least j hj
  have e1 : (⟨y, l.1, l.2⟩ : It) = f j := It.same e.symm (by rw [h1]; rfl) (by rw [h1]; rfl)
  have e2 : (⟨(f 0).id, (f 0).key.1, (f 0).key.2⟩ : It) = f 0 := It.same rfl rfl rfl
  rw [e1, e2]
  exact h2

/-! ### what has been popped -/
def ints (xs : List Int) : List Value := xs.map (fun x => .int .i64 x)
/-- The slice P holds the numbers ps, in memory of the call's own. -/
def IntsIs (B : Nat) (w : World) (P : Value) (ps : List Int) : Prop := w.ownsRow B 3 1 P ps.length (ints ps)
theorem IntsIs.lt {B : Nat} {w : World} {P : Value} {ps : List Int} (h : IntsIs B w P ps) : ∀ k, P.ownBlock = some k → B ≤ k ∧ k < w.heap.size := World.ownsRow.lt h
theorem IntsIs.nil (B : Nat) (w : World) : IntsIs B w (.slice none 0 0) [] := World.ownsRow_nil w B _ _
theorem IntsIs.typed {B : Nat} {w : World} {P : Value} {ps : List Int} (h : IntsIs B w P ps) {k : Nat} (hk : P.ownBlock = some k) : ∃ c, w.heap[k]? = some (.cells c 3 (0, 0)) := by
  rcases h.2 with ⟨rfl, _⟩ | ⟨g, cap, cur, rfl, _, hg, _⟩
  · cases hk
  · simp only [Value.ownBlock, Option.some.injEq] at hk
    subst hk
    exact ⟨cur, hg⟩
theorem IntsIs.chg {B : Nat} {w w' : World} {P : Value} {ps : List Int} {S : Nat → Prop} (h : IntsIs B w P ps) (hc : Chg S w w') (hs : ∀ k, P.ownBlock = some k → ¬ S k) : IntsIs B w' P ps := by
  refine ⟨h.1, ?_⟩
  rcases h.2 with hn | ⟨g, cap, cur, rfl, hb, hgg, rest⟩
  · exact .inl hn
  · have hlt := (World.ownsRow.lt h g rfl).2
    exact .inr ⟨g, cap, cur, rfl, hb, (hc.block g hlt (hs g rfl)).trans hgg, rest⟩
theorem IntsIs.below {B : Nat} {w w' : World} {P : Value} {ps : List Int} (h : IntsIs B w P ps) (hb : Below w.heap.size w w') : IntsIs B w' P ps :=
  h.chg (Chg.of_below hb (fun _ => False)) (fun _ _ => id)
theorem row_typed {w : World} {b n k : Nat} {t u : TypeId} {f : Nat → Value} {c : Array Value} {fr : Nat × Nat} (h : w.rowIs b t n f) (hk : w.heap[k]? = some (.cells c u fr)) (hne : t ≠ u) : b ≠ k := by
  rintro rfl
  obtain ⟨d, hd, _⟩ := h
  rw [hd] at hk
  injection hk with hk
  injection hk with _ ht
  exact hne ht
theorem map_typed {w : World} {b n k : Nat} {p : Places} {u : TypeId} {c : Array Value} {fr : Nat × Nat} (h : MapIs w b n p) (hk : w.heap[k]? = some (.cells c u fr)) : b ≠ k := by
  rintro rfl
  obtain ⟨D, ⟨es, clock, hb, _⟩, _⟩ := h
  rw [hb] at hk
  injection hk with hk
  cases hk
/-- What the queue's own calls turn leaves a slice of numbers as it is. -/
theorem IntsIs.fr {B B' : Nat} {w w' : World} {q m n : Nat} {P Q : Value} {ps : List Int} {M : Held} (h : IntsIs B w P ps) (hq : QT B' q m Q n M w) (hf : Fr T71 B' q m w w') : IntsIs B w' P ps := by
  obtain ⟨f, hQ, _⟩ := hq
  obtain ⟨A, cap, hr⟩ := hQ.row
  obtain ⟨p, hp, _⟩ := hQ.place
  refine IntsIs.chg h hf (fun k hk ho => ?_)
  obtain ⟨c, hc⟩ := h.typed hk
  rcases ho with e | e | ⟨_, c', t, fr, hT, hc'⟩
  · exact row_typed hr hc (by decide) e.symm
  · exact map_typed hp hc e.symm
  · rw [hc] at hc'
    injection hc' with hc'
    injection hc' with _ e
    rw [← e] at hT
    exact absurd hT (by unfold T71; decide)

theorem Try.info3 : (Try.prog.info? 3).map (fun i => (i.zero, i.size, i.bytes)) = some (some (.int .i64 0), 1, 8) := by kernel_rfl
theorem Try.underlying24 : Try.prog.underlying 24 = some (.slice 3) := by kernel_rfl

/-- 'append(P, x)', x laid in a block of its own. -/
theorem ints_append {B : Nat} {w W : World} {P : Value} {ps : List Int} (h : IntsIs B w P ps) (hB : B ≤ w.heap.size) (hn : ps.length + 1 ≤ 5000000000000) (x : Int) (hW : W = w.alloc (.cells #[.int .i64 x] 3)) :
    ∃ g cap W2, (Builtin.append_ #[24, 24] 24 #[P, .slice (some ⟨w.heap.size, 0, none⟩) 1 1]).run Try.prog W = .ok (.slice (some ⟨g, 0, none⟩) (ps.length + 1) cap) W2 ∧ IntsIs B W2 (.slice (some ⟨g, 0, none⟩) (ps.length + 1) cap) (ps ++ [x]) ∧ Chg (fun k => P.ownBlock = some k) w W2 ∧ (P.ownBlock = some g ∨ w.heap.size ≤ g) := by
  subst hW
  obtain ⟨i0, hi, hz0, hz1, hz2⟩ := info_parts Try.info3
  have hsz : (w.alloc (.cells #[.int .i64 x] 3)).heap.size = w.heap.size + 1 := by simp
  obtain ⟨g, cap', W, hr, h2, h3, h4, _⟩ := run_append_lies (P := Try.prog) (w.alloc (.cells #[.int .i64 x] 3)) 24 24 B 3 i0 (.int .i64 0) 1 8 Try.underlying24 hi hz0 hz1 hz2 rfl (by decide) P ps.length (ints ps) (World.ownsRow.alloc h _)
    ⟨w.heap.size, 0, none⟩ 1 1 [.int .i64 x] rfl (World.news_of_block (heap_alloc_new w _)) (by intro u hu; simp at hu; subst hu; rfl) (by decide) (by simp only [maxLen]; omega) (by omega) (by rw [hsz]; omega) _ rfl
  refine ⟨g, cap', W, hr, ?_, ((Chg.refl _ w).alloc _).trans (Chg.of_grown h3 (fun k e => e)), ?_⟩
  · unfold IntsIs
    rw [List.length_append, List.length_singleton]
    simpa [ints] using h2
  · rcases h4 with h4 | h4
    · exact .inl h4
    · exact .inr (by rw [h4, hsz]; omega)

/-! ### pop -/
theorem pop_mid {B : Nat} {w1 : World} {q g m cap n : Nat} {P : Value} {f : Nat → It} {ps : List Int} (hQ : QH w1 q g m cap n P f) (h : IntsIs B w1 P ps) (hB : B ≤ w1.heap.size) (hn : ps.length + 1 ≤ 5000000000000) (x : Int) :
    ∃ P' g2 cap2 W2, P' = .slice (some ⟨g2, 0, none⟩) (ps.length + 1) cap2 ∧ (Builtin.append_ #[24, 24] 24 #[P, .slice (some ⟨w1.heap.size, 0, none⟩) 1 1]).run Try.prog (w1.alloc (.cells #[.int .i64 x] 3)) = .ok P' W2 ∧
      W2.cell? ⟨q, 2, none⟩ = some P ∧ W2.frozen? ⟨q, 2, none⟩ = false ∧
      QH (W2.setCell ⟨q, 2, none⟩ P') q g m cap n P' f ∧ IntsIs B (W2.setCell ⟨q, 2, none⟩ P') P' (ps ++ [x]) ∧ Fr T713 B q m w1 (W2.setCell ⟨q, 2, none⟩ P') := by
  obtain ⟨g2, cap2, W2, hr, h2, h3, h4⟩ := ints_append h hB hn x rfl
  obtain ⟨F, hF, hf⟩ := hQ.items
  obtain ⟨p, hp, hpo⟩ := hQ.place
  have hk : ∀ k, P.ownBlock = some k → k ≠ q ∧ k ≠ g ∧ k ≠ m ∧ B ≤ k := fun k hk => by
    obtain ⟨c, hc⟩ := h.typed hk
    exact ⟨(row_typed hQ.row hc (by decide)).symm, (row_typed hF hc (by decide)).symm, (map_typed hp hc).symm, (h.lt k hk).1⟩
  have hQ2 := hQ.keep h3 (fun e => (hk q e).1 rfl) (fun e => (hk g e).2.1 rfl) (fun e => (hk m e).2.2.1 rfl)
  obtain ⟨F2, hF2, hf2⟩ := hQ2.items
  obtain ⟨p2, hp2, hpo2⟩ := hQ2.place
  obtain ⟨P', hP'⟩ : ∃ P', Value.slice (some ⟨g2, 0, none⟩) (ps.length + 1) cap2 = P' := ⟨_, rfl⟩
  have hob : P'.ownBlock = some g2 := by rw [← hP']; rfl
  rw [hP'] at hr h2
  have hg2 : g2 ≠ q := by
    obtain ⟨c, hc⟩ := h2.typed hob
    exact (row_typed hQ2.row hc (by decide)).symm
  have hrow := (hQ2.row.set 2 P').congr (g := tri (.slice (some ⟨g, 0, none⟩) n cap) (.map (some m)) P') (fun i hi => by
    unfold tri
    by_cases e : i = 0
    · simp [e]
    · by_cases e1 : i = 1
      · simp [e1]
      · have e2 : i = 2 := by omega
        simp [e2])
  have hc : Chg (fun k => k = q) W2 (W2.setCell ⟨q, 2, none⟩ P') := (Chg.refl (fun k => k = q) W2).set (p := ⟨q, 2, none⟩) (.inl rfl) _
  refine ⟨P', g2, cap2, W2, hP'.symm, hr, hQ2.c2, hQ2.fz 2, ⟨hrow, hQ2.ncap, hQ2.capm, hQ2.nmax, ⟨F2, hF2.of_block (hc.block g hF2.lt (fun e => hQ.qg e.symm)), hf2⟩, hQ2.ids, ⟨p2, hp2.of_block (hc.block m hp2.lt (fun e => hQ.qm e.symm)), hpo2⟩⟩, ?_, ?_⟩
  · refine IntsIs.chg h2 hc (fun k e => ?_)
    rw [hob] at e
    injection e with e
    rw [← e]; exact hg2
  · refine Chg.mono (S := fun k => k = q ∨ P.ownBlock = some k) ((h3.mono (fun _ _ e => .inr e)).trans (hc.mono (fun _ _ e => .inl e))) ?_
    rintro k _ (e | e)
    · exact .inl e
    · obtain ⟨c, hc⟩ := h.typed e
      exact .inr (.inr ⟨(hk k e).2.2.2, c, _, _, .inr rfl, hc⟩)

set_option maxHeartbeats 1000000 in
theorem pop_none {B : Nat} {w : World} {q m : Nat} {P : Value} {M : Held} (h : QT B q m P 0 M w) :
    Calls Try.prog 35 #[.pointer (some ⟨q, 0, none⟩)] w fun e w' => e = .returned (.int .i64 3) ∧ Below w.heap.size w w' := by
  obtain ⟨f, hQ, hh, hr⟩ := h
  obtain ⟨A, cap, hc0, _⟩ := hQ.c0
  clear hQ hh hr
  go_enter Try.func35, Try.ntmps35
  go_wp2
  go_ret
  exact ⟨rfl, Below.refl _ _⟩

def Popped (B q m n : Nat) (M : Held) (ps : List Int) (w : World) (e : Ending) (w' : World) : Prop :=
  e = .returned (.int .i64 0) ∧ ∃ P', QT B q m P' n (delM M (least M)) w' ∧ IntsIs B w' P' (ps ++ [least M]) ∧ Fr T713 B q m w w'

theorem pop_step {B : Nat} {w w1 : World} {q g m cap n : Nat} {P : Value} {f f1 : Nat → It} {ps : List Int} (hQ : QH w1 q g m cap n P f1) (hc : Chg (fun k => k = q ∨ k = g ∨ k = m) w.drew w1) (h : B ≤ g ∧ QH w.drew q g m cap (n + 1) P f ∧ IntsIs B w P ps ∧ B ≤ w.heap.size ∧ ps.length + 1 ≤ 5000000000000) (x : Int) :
    ∃ P' g2 cap2 W2, P' = .slice (some ⟨g2, 0, none⟩) (ps.length + 1) cap2 ∧ (Builtin.append_ #[24, 24] 24 #[P, .slice (some ⟨w1.heap.size, 0, none⟩) 1 1]).run Try.prog (w1.alloc (.cells #[.int .i64 x] 3)) = .ok P' W2 ∧
      W2.cell? ⟨q, 2, none⟩ = some P ∧ W2.frozen? ⟨q, 2, none⟩ = false ∧
      QH (W2.setCell ⟨q, 2, none⟩ P') q g m cap n P' f1 ∧ IntsIs B (W2.setCell ⟨q, 2, none⟩ P') P' (ps ++ [x]) ∧ Fr T713 B q m w1 (W2.setCell ⟨q, 2, none⟩ P') := by
  obtain ⟨hg, hQ0, hP, hB, hn⟩ := h
  refine pop_mid hQ (IntsIs.chg (w := w.drew) hP hc (fun k hk ho => ?_)) (Nat.le_trans hB hc.size) hn x
  obtain ⟨c, hcc⟩ := hP.typed hk
  replace hcc : w.drew.heap[k]? = some (.cells c 3 (0, 0)) := hcc
  obtain ⟨F, hF, _⟩ := hQ0.items
  obtain ⟨p, hp, _⟩ := hQ0.place
  rcases ho with e | e | e
  · exact row_typed hQ0.row hcc (by decide) e.symm
  · exact row_typed hF hcc (by decide) e.symm
  · exact map_typed hp hcc e.symm
theorem pop_done {B : Nat} {w w1 W : World} {q g m cap n : Nat} {P P' : Value} {f f1 : Nat → It} {M : Held} {ps : List Int} (h : B ≤ g ∧ QH w.drew q g m cap (n + 1) P f ∧ IntsIs B w P ps ∧ B ≤ w.heap.size ∧ ps.length + 1 ≤ 5000000000000)
    (k : QH w1 q g m cap n P f1 ∧ Heap f1 n ∧ Rep f1 n (delM M (least M)) ∧ Chg (fun k => k = q ∨ k = g ∨ k = m) w.drew w1 ∧ QH W q g m cap n P' f1 ∧ IntsIs B W P' (ps ++ [least M]) ∧ Fr T713 B q m w1 W) : Popped B q m n M ps w (.returned (.int .i64 0)) W := by
  obtain ⟨hg, hQ0, hP, hB, hn⟩ := h
  obtain ⟨b1, b2, b3, b4, b5, b6, b7⟩ := k
  have h0 : Fr T713 B q m w w.drew := Chg.drew (Chg.refl _ _)
  exact ⟨rfl, P', ⟨f1, .inr ⟨g, cap, hg, b5⟩, b2, b3⟩, b6, h0.trans (((fr_of_qgm hQ0 hg b4).mono (fun _ e => .inl e)).trans b7)⟩

set_option maxHeartbeats 1000000 in
theorem pop_some {B : Nat} {w : World} {q m n : Nat} {P : Value} {M : Held} {ps : List Int} (h : QT B q m P (n + 1) M w) (hP : IntsIs B w P ps) (hB : B ≤ w.heap.size) (hn : ps.length + 1 ≤ 5000000000000) :
    Calls Try.prog 35 #[.pointer (some ⟨q, 0, none⟩)] w (Popped B q m n M ps w) := by
  obtain ⟨f, hQ, hh, hr⟩ := h
  obtain ⟨h0, _⟩ | ⟨g, cap, hg, hQ⟩ := hQ
  · omega
  have hx := least_eq (rep_least hh hr)
  have HT := Lib.hid (fun W (hW : QH W q g m cap (n + 1) P f) => take_any hW hh hr (show 0 < n + 1 by omega))
  rw [← hx] at HT
  have hc0 := hQ.c0
  have hc2 := hQ.c2
  have hnz : (((n : Int) + 1) == 0) = false := beq_eq_false_iff_ne.2 (by omega)
  have HX := Lib.hid (And.intro hg (And.intro (hQ.keep ((Chg.refl (fun _ => False) w).drew) id id id) (And.intro hP (And.intro hB hn))))
  clear hQ hh hr hx hg hP hB hn
  go_enter Try.func35, Try.ntmps35
  go_wp2
  go_region_law (first
    | (refine step_append_eq rfl (.tmp 13) (.tmp 16) 24 rfl (by rfl) (by rfl) r2 ?_)
    | (go_simp; go_at_call 38; refine (HT.out _ HX.out.2.1).mono ?_; rintro e w1 ⟨rfl, f1, b1, b2, b3, b4⟩; have d2 := b1.c2; have dq := b1.row.lt; obtain ⟨_, g2, cap2, W2, rfl, r2, k1, k2, k3, k4, k5⟩ := pop_step b1 b4 HX.out (least M); have HY := Lib.hid (And.intro b1 (And.intro b2 (And.intro b3 (And.intro b4 (And.intro k3 (And.intro k4 k5)))))); clear b1 b2 b3 b4 k3 k4 k5))
  all_goals
    go_wp2
    go_ret
    exact pop_done HX.out HY.out

end Go.Proofs.Ytbckppflfgdblaa
