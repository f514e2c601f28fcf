/- The reference's OPlay: its map, its one list, its errors and what it sent, beside each other in memory. -/
import Derived.Test.YtobkepipmmkboaaSc9
import Derived.Test.YtobkepipmmkboaaScList
import Derived.Test.YtobkepipmmkboaaMp0
import Derived.Test.YtobkepipmmkboaaEn1
import Derived.Test.YtobkepipmmkboaaTh1
namespace Go.Proofs.Ytobkepipmmkboaa
open Go.RowKit Go.Maps

theorem apart_types {w : World} {B B' : Nat} {T T' : TypeId} {s s' n n' : Nat} {v u : Value} {us vs : List Value} (h : w.ownsRow B T s v n us) (k : w.ownsRow B' T' s' u n' vs) (hne : T ≠ T') : ApartV v u := by
  intro b hb hu
  rcases h.2 with ⟨rfl, _⟩ | ⟨g, cap, cur, rfl, _, hg, _⟩
  · cases hb
  rcases k.2 with ⟨rfl, _⟩ | ⟨g2, cap2, cur2, rfl, _, hg2, _⟩
  · cases hu
  have hb : some g = some b := hb
  have hu : some g2 = some b := hu
  injection hb with hb
  injection hu with hu
  subst hb hu
  rw [hg] at hg2
  injection hg2 with e
  injection e with _ e
  exact hne e
theorem own_not_map {w : World} {B : Nat} {T : TypeId} {s n mb i : Nat} {v : Value} {us : List Value} {M : Nat → Int} (h : w.ownsRow B T s v n us) (k : MapN w mb i M) : v.ownBlock ≠ some mb := by
  intro hb
  rcases h.2 with ⟨rfl, _⟩ | ⟨g, cap, cur, rfl, _, hg, _⟩
  · cases hb
  have hb : some g = some mb := hb
  injection hb with hb
  subst hb
  obtain ⟨D, ⟨es, clock, hm, _⟩, _⟩ := k
  rw [hg] at hm
  cases hm
theorem el_err : ElemOf 26 24 1 8 := ⟨by kernel_rfl, info_elem info_errno rfl, by decide⟩
theorem info_oflow : (Try.prog.info? 56).map (fun i => (i.zero, i.size, i.bytes)) = some (some (.agg #[.int .i64 0, .int .i64 0, .int .i64 0]), 3, 24) := by kernel_rfl
theorem el_oflow : ElemOf 56 53 3 24 := ⟨by kernel_rfl, info_elem info_oflow rfl, by decide⟩
theorem t3_oflow : T3 56 53 := ⟨by kernel_rfl, by kernel_rfl, fun w => by kernel_rfl, by
  obtain ⟨i, h1, h2⟩ := Option.map_eq_some_iff.1 info_oflow
  simp only [Prod.mk.injEq] at h2
  exact ⟨i, h1, h2⟩⟩
/-- The one list, as numbers. -/
def triO (l : List (Nat × Int × Int)) : List (Int × Int × Int) := l.map fun x => ((x.1 : Int), x.2.1, x.2.2)
theorem triO_length (l : List (Nat × Int × Int)) : (triO l).length = l.length := List.length_map ..
theorem triO_at {l : List (Nat × Int × Int)} {i : Nat} (h : i < l.length) : (triO l)[i]? = some (((atO l i).1 : Int), (atO l i).2.1, (atO l i).2.2) := by
  unfold triO
  rw [List.getElem?_map, get_atO h]
  rfl
/-- What OPlay holds on the way. -/
structure PR (w wr : World) (mb i : Nat) (vl ve vs : Value) (l : List (Nat × Int × Int)) (es : List Int) (ss : List (Nat × Int)) (s : Sc) : Prop where
  below : Below w.heap.size w wr
  far : w.heap.size ≤ mb
  map : MapN wr mb i s.last
  list : OwnT 56 w.heap.size wr vl (triO l)
  errs : OwnE 26 w.heap.size wr ve es
  sent : OwnS w.heap.size wr vs ss
namespace PR
variable {w wr W : World} {mb i : Nat} {vl ve vs : Value} {l : List (Nat × Int × Int)} {es : List Int} {ss : List (Nat × Int)} {s : Sc}
theorem later (h : PR w wr mb i vl ve vs l es ss s) (hb : Below wr.heap.size wr W) : PR w W mb i vl ve vs l es ss s :=
  ⟨h.below.trans (hb.mono h.below.size), h.far, h.map.of_block (hb.block _ h.map.lt), h.list.below hb, h.errs.below hb, h.sent.below hb⟩
theorem start (w : World) : PR w (w.alloc (.map #[] 0)) w.heap.size 0 (.slice none 0 0) (.slice none 0 0) (.slice none 0 0) [] [] [] Sc.zero :=
  ⟨(Below.refl _ _).alloc (Nat.le_refl _) _, Nat.le_refl _, MapN.made w, OwnT.nil _ _ _, OwnE.nil _ _ _, OwnS.nil _ _⟩
/-- An error more. -/
theorem err (h : PR w wr mb i vl ve vs l es ss s) (e : Int) (hn : es.length ≤ 1000) :
    ∃ ve' W, (∀ ty, (Builtin.append_ #[24, 24] ty #[ve, .slice (some ⟨wr.heap.size, 0, none⟩) 1 1]).run Try.prog (wr.alloc (.cells #[.int .i64 e] 26)) = .ok ve' W) ∧ PR w W mb i vl ve' vs l (es ++ [e]) ss s := by
  obtain ⟨v', W, hr, ho, hg⟩ := own_one el_err h.errs (xs := [.int .i64 e]) rfl (fun u hu => by rw [List.mem_singleton] at hu; subst hu; rfl) (by simp only [maxLen]; omega) (by omega) h.below.size
  refine ⟨v', W, hr, h.below.trans hg.below, h.far, h.map.of_block (hg.rest mb h.map.lt (own_not_map h.errs h.map)), (hg.keep h.list (apart_types h.errs h.list (by decide))).1, ?_, (hg.keep h.sent (apart_types h.errs h.sent (by decide))).1⟩
  unfold OwnE
  rw [i64s_append, List.length_append]
  exact ho
/-- A packet more that was sent. -/
theorem sent1 (h : PR w wr mb i vl ve vs l es ss s) (f : Nat) (b : Int) (hn : ss.length ≤ 1000) :
    ∃ vs' W, (∀ ty, (Builtin.append_ #[25, 25] ty #[vs, .slice (some ⟨wr.heap.size, 0, none⟩) 1 1]).run Try.prog (wr.alloc (.cells #[.int .i64 (f : Int), .int .i64 b] 35)) = .ok vs' W) ∧ PR w W mb i vl ve vs' l es (ss ++ [(f, b)]) s := by
  obtain ⟨v', W, hr, ho, hg⟩ := own_one el_sent h.sent (xs := sns [(f, b)]) rfl (sns_one _) (by simp only [maxLen]; omega) (by omega) h.below.size
  refine ⟨v', W, hr, h.below.trans hg.below, h.far, h.map.of_block (hg.rest mb h.map.lt (own_not_map h.sent h.map)), (hg.keep h.list (apart_types h.sent h.list (by decide))).1, (hg.keep h.errs (apart_types h.sent h.errs (by decide))).1, ?_⟩
  unfold OwnS
  rw [sns_append, List.length_append]
  exact ho
/-- A packet more that waits. -/
theorem list1 (h : PR w wr mb i vl ve vs l es ss s) (f : Nat) (b g : Int) (hn : l.length ≤ 1000) :
    ∃ vl' W, (∀ ty, (Builtin.append_ #[53, 53] ty #[vl, .slice (some ⟨wr.heap.size, 0, none⟩) 1 1]).run Try.prog (wr.alloc (.cells #[.int .i64 (f : Int), .int .i64 b, .int .i64 g] 56)) = .ok vl' W) ∧ PR w W mb i vl' ve vs (l ++ [(f, b, g)]) es ss s := by
  have hl := triO_length l
  obtain ⟨v', W, hr, ho, hg⟩ := own_one el_oflow h.list (xs := ths [((f : Int), b, g)]) rfl (ths_one _) (by simp only [maxLen]; omega) (by omega) h.below.size
  refine ⟨v', W, hr, h.below.trans hg.below, h.far, h.map.of_block (hg.rest mb h.map.lt (own_not_map h.list h.map)), ?_, (hg.keep h.errs (apart_types h.list h.errs (by decide))).1, (hg.keep h.sent (apart_types h.list h.sent (by decide))).1⟩
  unfold OwnT
  rw [show triO (l ++ [(f, b, g)]) = triO l ++ [((f : Int), b, g)] by unfold triO; rw [List.map_append]; rfl, ths_append, List.length_append]
  exact ho
/-- A new tag in the map. -/
theorem put (h : PR w wr mb i vl ve vs l es ss s) {f : Nat} (hf : f ≤ 1000) {v : Int} (h0 : 0 ≤ v) (h1 : v ≤ 9223372036854775807) (hn : i ≤ 1000) (s' : Sc) (hs : s'.last = fun k => if k = f then v else s.last k) :
    ∃ W, (Instr.mapUpdate 54 (.map (some mb)) (.int .i64 (f : Int)) (.int .i64 v)).run Try.prog wr = .ok () W ∧ PR w W mb (i + 1) vl ve vs l es ss s' ∧ (∀ k, k < wr.heap.size → k ≠ mb → W.heap[k]? = wr.heap[k]?) ∧ wr.heap.size ≤ W.heap.size := by
  obtain ⟨W, hr, hm, ht⟩ := h.map.store hf h0 h1 hn
  obtain ⟨hb, hsz, hk⟩ := MapN.rest ht h.far h.below.size
  refine ⟨W, hr, ⟨h.below.trans hb, h.far, by rw [hs]; exact hm, own_block h.list fun k e => hk k (World.ownsRow.lt h.list k e).2 fun e2 => own_not_map h.list h.map (by rw [← e2]; exact e), own_block h.errs fun k e => hk k (World.ownsRow.lt h.errs k e).2 fun e2 => own_not_map h.errs h.map (by rw [← e2]; exact e), own_block h.sent fun k e => hk k (World.ownsRow.lt h.sent k e).2 fun e2 => own_not_map h.sent h.map (by rw [← e2]; exact e)⟩, hk, hsz⟩
/-- The list as a slice. -/
theorem form (h : PR w wr mb i vl ve vs l es ss s) : ∃ A cap, vl = .slice A l.length cap ∧ l.length ≤ cap ∧ ThreeIn wr A (triO l) := by
  obtain ⟨A, cap, e, hle, hT⟩ := h.list.form
  rw [triO_length] at e hle
  exact ⟨A, cap, e, hle, hT⟩
/-- Without the packet at k. -/
theorem without {A : Option Addr} {cap : Nat} (h : PR w wr mb i (.slice A l.length cap) ve vs l es ss s) (hc : l.length ≤ cap) (hT : ThreeIn wr A (triO l)) {k : Nat} (hk : k < l.length) (hq : l.length ≤ 1000) (s' : Sc) (hs : s'.last = s.last) :
    ∃ A1 A2 c2 v1 v2 W1 W2, (∀ W : World, (Instr.slice 53 (.slice A l.length cap) none (some (.int .i64 (k : Int))) none).run Try.prog W = .ok (.slice A1 k cap) W) ∧
      (∀ W : World, (Instr.slice 53 (.slice A l.length cap) (some (.int .i64 ((k : Int) + 1))) none none).run Try.prog W = .ok (.slice A2 (l.length - (k + 1)) c2) W) ∧
      (∀ ty, (Builtin.append_ #[53, 53] ty #[.slice (some ⟨wr.heap.size, 0, none⟩) 0 0, .slice A1 k cap]).run Try.prog (wr.alloc (.cells #[] 56)) = .ok v1 W1) ∧
      (∀ ty, (Builtin.append_ #[53, 53] ty #[v1, .slice A2 (l.length - (k + 1)) c2]).run Try.prog W1 = .ok v2 W2) ∧
      PR w W2 mb i v2 ve vs (l.take k ++ l.drop (k + 1)) es ss s' := by
  obtain ⟨A1, A2, c2, v1, v2, W1, W2, r1, r2, r3, r4, ho, hb⟩ := without_three t3_oflow (B := wr.heap.size) hT (k := k) (c := cap) (by rw [triO_length]; exact hk) (by rw [triO_length]; exact hc) (by rw [triO_length]; omega) (Nat.le_refl _)
  rw [triO_length] at r1 r2 r4
  have h2 := h.later hb
  refine ⟨A1, A2, c2, v1, v2, W1, W2, r1, r2, r3, r4, h2.below, h2.far, by rw [hs]; exact h2.map, ?_, h2.errs, h2.sent⟩
  rw [show triO (l.take k ++ l.drop (k + 1)) = (triO l).take k ++ (triO l).drop (k + 1) by unfold triO; rw [List.map_append, List.map_take, List.map_drop]]
  exact ho.mono h.below.size
end PR

/-- A new block of three numbers. -/
theorem laid3_cells (w : World) (T : TypeId) (x y z : Int) : (laid3 w T x y z).cell? ⟨w.heap.size, 0, none⟩ = some (.int .i64 x) ∧ (laid3 w T x y z).cell? ⟨w.heap.size, 1, none⟩ = some (.int .i64 y) ∧ (laid3 w T x y z).cell? ⟨w.heap.size, 2, none⟩ = some (.int .i64 z) ∧ Below w.heap.size w (laid3 w T x y z) ∧ w.heap.size < (laid3 w T x y z).heap.size :=
  ⟨cell_of_row _ _ 0 _ _ _ (heap_alloc_new w _), cell_of_row _ _ 1 _ _ _ (heap_alloc_new w _), cell_of_row _ _ 2 _ _ _ (heap_alloc_new w _), (Below.refl _ _).alloc (Nat.le_refl _) _, by simp [laid3]⟩
theorem MapN.more {w : World} {b n : Nat} {M : Nat → Int} (h : MapN w b n M) : MapN w b (n + 1) M := by
  obtain ⟨D, hD, hM⟩ := h
  exact ⟨D, hD.mono (Nat.le_succ n), hM⟩
theorem PR.more {w wr : World} {mb i : Nat} {vl ve vs : Value} {l : List (Nat × Int × Int)} {es : List Int} {ss : List (Nat × Int)} {s : Sc} (h : PR w wr mb i vl ve vs l es ss s) : PR w wr mb (i + 1) vl ve vs l es ss s := ⟨h.below, h.far, h.map.more, h.list, h.errs, h.sent⟩

/-! ### an operation -/
theorem step_bad {u : Nat → Int} {n : Nat} {t : ScAt} {o : Int × Int × Int} {e : Int} (h : scErr n t.st o = e) (he : e ≠ 0) : t.step u n o = ⟨t.errs ++ [e], t.sent, t.st⟩ := by
  unfold ScAt.step
  rw [h, if_neg he]
theorem step_come {u : Nat → Int} {n : Nat} {t : ScAt} {f : Nat} {b : Int} (hf : f < n) (hb : 1 ≤ b ∧ b ≤ 1500) : t.step u n (1, (f : Int), b) = ⟨t.errs ++ [0], t.sent, t.st.come u f b⟩ := by
  have h : scErr n t.st (1, (f : Int), b) = 0 := by
    unfold scErr
    dsimp only
    rw [if_pos rfl, if_neg (by omega), if_neg (by omega)]
  unfold ScAt.step
  rw [if_pos h, if_pos rfl, Int.toNat_natCast]
theorem step_send {u : Nat → Int} {n : Nat} {t : ScAt} {x y : Int} {f : Nat} {b g : Int} (hb : bestF t.st.q n = some (f, b, g)) : t.step u n (2, x, y) = ⟨t.errs ++ [0], t.sent ++ [(f, b)], t.st.send f g⟩ := by
  have h : scErr n t.st (2, x, y) = 0 := by
    unfold scErr
    dsimp only
    rw [if_neg (by decide), if_pos rfl, hb, if_neg (by simp)]
  unfold ScAt.step
  rw [if_pos h, if_neg (by dsimp only; decide), hb]
theorem bstI_in {l : List (Nat × Int × Int)} {i : Nat} (h : i ≤ l.length) (h0 : 0 < l.length) : bstI l i < l.length := by
  by_cases c : i = 0
  · subst c
    exact h0
  · have := bstI_lt l i (by omega)
    omega
/-- What is known between two operations. -/
structure PI (w wr : World) (mb i n : Nat) (vl ve vs : Value) (l : List (Nat × Int × Int)) (t : ScAt) : Prop where
  mem : PR w wr mb i vl ve vs l t.errs t.sent t.st
  one : OneList n l t.st
  few : l.length ≤ i
theorem PI.start (w : World) (n : Nat) : PI w (w.alloc (.map #[] 0)) w.heap.size 0 n (.slice none 0 0) (.slice none 0 0) (.slice none 0 0) [] ⟨[], [], Sc.zero⟩ := ⟨PR.start w, OneList.zero n, Nat.le_refl _⟩
theorem PI.later {w wr W : World} {mb i n : Nat} {vl ve vs : Value} {l : List (Nat × Int × Int)} {t : ScAt} (h : PI w wr mb i n vl ve vs l t) (hb : Below wr.heap.size wr W) : PI w W mb i n vl ve vs l t := ⟨h.mem.later hb, h.one, h.few⟩
/-- An operation that is refused. -/
theorem PI.bad {w wr : World} {mb i n : Nat} {vl ve vs : Value} {l : List (Nat × Int × Int)} {t t' : ScAt} {u : Nat → Int} {o : Int × Int × Int} (h : PI w wr mb i n vl ve vs l t) (hs : t' = t.step u n o) (hn : t.errs.length ≤ 1000) {e : Int} (he : scErr n t.st o = e) (h0 : e ≠ 0) :
    ∃ ve' W, (∀ ty, (Builtin.append_ #[24, 24] ty #[ve, .slice (some ⟨wr.heap.size, 0, none⟩) 1 1]).run Try.prog (wr.alloc (.cells #[.int .i64 e] 26)) = .ok ve' W) ∧ PI w W mb (i + 1) n vl ve' vs l t' ∧ t'.st.tm = t.st.tm := by
  obtain ⟨ve', W, hr, hp⟩ := h.mem.err e hn
  rw [hs, step_bad he h0]
  exact ⟨ve', W, hr, ⟨hp.more, h.one, Nat.le_succ_of_le h.few⟩, rfl⟩
/-- A packet that comes: the map's new tag; the list's new packet; no error. -/
theorem PI.come {w wr : World} {mb i n : Nat} {vl ve vs : Value} {l : List (Nat × Int × Int)} {t t' : ScAt} {u : Nat → Int} {f : Nat} {b g : Int} (h : PI w wr mb i n vl ve vs l t) (hs : t' = t.step u n (1, (f : Int), b)) (hn : t.errs.length ≤ 1000) (hi : i ≤ 1000) (hf : f < n) (hf2 : n ≤ 16) (hb : 1 ≤ b ∧ b ≤ 1500) (hg : t.st.tag u f b = g) (g0 : 0 ≤ g) (g1 : g ≤ 9223372036854775807) :
    ∃ W1, (Instr.mapUpdate 54 (.map (some mb)) (.int .i64 (f : Int)) (.int .i64 g)).run Try.prog wr = .ok () W1 ∧ (Instr.lookup 54 (.map (some mb)) (.int .i64 (f : Int)) false).run Try.prog W1 = .ok (.int .i64 g) W1 ∧ (∀ k, k < wr.heap.size → k ≠ mb → W1.heap[k]? = wr.heap[k]?) ∧ wr.heap.size ≤ W1.heap.size ∧
      ∃ vl' W2, (∀ ty, (Builtin.append_ #[53, 53] ty #[vl, .slice (some ⟨W1.heap.size, 0, none⟩) 1 1]).run Try.prog (W1.alloc (.cells #[.int .i64 (f : Int), .int .i64 b, .int .i64 g] 56)) = .ok vl' W2) ∧
      ∃ ve' W3, (∀ ty, (Builtin.append_ #[24, 24] ty #[ve, .slice (some ⟨W2.heap.size, 0, none⟩) 1 1]).run Try.prog (W2.alloc (.cells #[.int .i64 0] 26)) = .ok ve' W3) ∧ PI w W3 mb (i + 1) n vl' ve' vs (l ++ [(f, b, g)]) t' ∧ t'.st.tm = t.st.tm := by
  obtain ⟨W1, r1, p1, k1, z1⟩ := h.mem.put (f := f) (by omega) g0 g1 hi (t.st.come u f b) (by unfold Sc.come; rw [hg])
  obtain ⟨vl', W2, r2, p2⟩ := p1.list1 f b g (by have := h.few; omega)
  obtain ⟨ve', W3, r3, p3⟩ := p2.err 0 hn
  have hlk := p1.map.look (f := f) (by omega)
  rw [show (t.st.come u f b).last f = g by unfold Sc.come; dsimp only; rw [if_pos rfl, hg]] at hlk
  have ho := h.one.come u hf b
  rw [hg] at ho
  rw [hs, step_come hf hb]
  exact ⟨W1, r1, hlk, k1, z1, vl', W2, r2, ve', W3, r3, ⟨p3, ho, by rw [List.length_append, List.length_singleton]; have := h.few; omega⟩, rfl⟩
/-- A packet that is sent: it is told; the list without it; no error. -/
theorem PI.send {w wr : World} {mb i n : Nat} {A : Option Addr} {cap : Nat} {ve vs : Value} {l : List (Nat × Int × Int)} {t t' : ScAt} {u : Nat → Int} {f q : Nat} {b g x y : Int} (hq : l.length = q) (h : PI w wr mb i n (.slice A q cap) ve vs l t) (hG : t.st.Good u n) (hu : ∀ k, 0 ≤ u k) (hs : t' = t.step u n (2, x, y)) (hn : t.errs.length ≤ 1000) (hm : t.sent.length ≤ 1000) (hi : i ≤ 1000) (hc : q ≤ cap) (h0 : 0 < q) (hx : atO l (bstI l q) = (f, b, g)) :
    ∃ vs' W1, (∀ ty, (Builtin.append_ #[25, 25] ty #[vs, .slice (some ⟨wr.heap.size, 0, none⟩) 1 1]).run Try.prog (wr.alloc (.cells #[.int .i64 (f : Int), .int .i64 b] 35)) = .ok vs' W1) ∧
      ∃ A1 A2 c2 v1 v2 W2 W3, (∀ W : World, (Instr.slice 53 (.slice A q cap) none (some (.int .i64 (bstI l q : Int))) none).run Try.prog W = .ok (.slice A1 (bstI l q) cap) W) ∧
      (∀ W : World, (Instr.slice 53 (.slice A q cap) (some (.int .i64 ((bstI l q : Int) + 1))) none none).run Try.prog W = .ok (.slice A2 (q - (bstI l q + 1)) c2) W) ∧
      (∀ ty, (Builtin.append_ #[53, 53] ty #[.slice (some ⟨W1.heap.size, 0, none⟩) 0 0, .slice A1 (bstI l q) cap]).run Try.prog (W1.drew.alloc (.cells #[] 56)) = .ok v1 W2) ∧
      (∀ ty, (Builtin.append_ #[53, 53] ty #[v1, .slice A2 (q - (bstI l q + 1)) c2]).run Try.prog W2 = .ok v2 W3) ∧
      ∃ ve' W4, (∀ ty, (Builtin.append_ #[24, 24] ty #[ve, .slice (some ⟨W3.heap.size, 0, none⟩) 1 1]).run Try.prog (W3.alloc (.cells #[.int .i64 0] 26)) = .ok ve' W4) ∧ PI w W4 mb (i + 1) n v2 ve' vs' (l.take (bstI l q) ++ l.drop (bstI l q + 1)) t' ∧ t'.st.tm = g := by
  subst hq
  obtain ⟨vs', W1, r1, p1⟩ := h.mem.sent1 f b hm
  obtain ⟨A', cap', e, hc', hT'⟩ := p1.form
  injection e with e1 _ e2
  subst e1 e2
  have hd : Below W1.heap.size W1 W1.drew := (Below.refl _ _).drew
  obtain ⟨A1, A2, c2, v1, v2, W2, W3, s1, s2, s3, s4, p2⟩ := (p1.later hd).without hc (hT'.below hd) (k := bstI l l.length) (bstI_in (Nat.le_refl _) h0) (by have := h.few; omega) (t.st.send f g) rfl
  obtain ⟨ve', W4, r4, p3⟩ := p2.err 0 hn
  have hb := h.one.bestF hG hu h0 hx
  have ho := (h.one.best hG hu h0 hx).2
  rw [hs, step_send hb]
  exact ⟨vs', W1, r1, A1, A2, c2, v1, v2, W2, W3, s1, s2, s3, s4, ve', W4, r4, ⟨p3.more, ho, by rw [List.length_append, List.length_take, List.length_drop]; have := h.few; omega⟩, rfl⟩
end Go.Proofs.Ytobkepipmmkboaa
