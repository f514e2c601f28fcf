/- heaps.Play performs the operations in order, starting with an empty queue. -/
import Derived.Test.YtbckppflfgdblaaHp12
import Derived.OwnWalk
namespace Go.Proofs.Ytbckppflfgdblaa
open Go.RowKit Go.Maps

noncomputable def run : Qst → List Op4 → List Int × List Int × Qst
  | s, [] => ([], [], s)
  | s, o :: os => ((step s o).1 :: (run (step s o).2.2 os).1, (step s o).2.1 ++ (run (step s o).2.2 os).2.1, (run (step s o).2.2 os).2.2)
theorem run_append (s : Qst) (a b : List Op4) : run s (a ++ b) = ((run s a).1 ++ (run (run s a).2.2 b).1, (run s a).2.1 ++ (run (run s a).2.2 b).2.1, (run (run s a).2.2 b).2.2) := by
  induction a generalizing s with
  | nil => simp [run]
  | cons o os ih => simp [run, ih]
theorem run_snoc (s : Qst) (a : List Op4) (o : Op4) : run s (a ++ [o]) = ((run s a).1 ++ [(step (run s a).2.2 o).1], (run s a).2.1 ++ (step (run s a).2.2 o).2.1, (step (run s a).2.2 o).2.2) := by
  rw [run_append]; simp [run]
theorem run_length (s : Qst) (a : List Op4) : (run s a).1.length = a.length := by
  induction a generalizing s with
  | nil => rfl
  | cons o os ih => simp [run, ih]
theorem run_bound (s : Qst) (a : List Op4) : (run s a).2.2.n ≤ s.n + a.length ∧ (run s a).2.1.length ≤ a.length := by
  induction a generalizing s with
  | nil => simp [run]
  | cons o os ih =>
    obtain ⟨h1, h2⟩ := ih (step s o).2.2
    have h3 := step_n s o
    have h4 := step_p s o
    simp only [run, List.length_append, List.length_cons]
    omega
def q0 : Qst := ⟨0, fun _ => none⟩

/-- The operations os lie in block b, from cell off on. -/
def OpsAt (w : World) (b off : Nat) (os : List Op4) : Prop :=
  ∀ j o, os[j]? = some o → w.cell? ⟨b, off + j * 4, none⟩ = some (.int .i64 o.kind) ∧ w.cell? ⟨b, off + j * 4 + 1, none⟩ = some (.int .i64 o.id) ∧ w.cell? ⟨b, off + j * 4 + 2, none⟩ = some (.int .u64 o.hi) ∧ w.cell? ⟨b, off + j * 4 + 3, none⟩ = some (.int .u64 o.lo)
theorem OpsAt.below {w w' : World} {b off : Nat} {os : List Op4} (h : OpsAt w b off os) (hb : Below w.heap.size w w') (hl : 0 < os.length → b < w.heap.size) : OpsAt w' b off os := by
  intro j o ho
  replace hl := hl (by
    rcases Nat.lt_or_ge j os.length with h | h
    · omega
    · rw [List.getElem?_eq_none h] at ho; cases ho)
  have := bcell hb
  obtain ⟨a0, a1, a2, a3⟩ := h j o ho
  exact ⟨by rw [this.1 _ _ hl]; exact a0, by rw [this.1 _ _ hl]; exact a1, by rw [this.1 _ _ hl]; exact a2, by rw [this.1 _ _ hl]; exact a3⟩

def NumsIs (t : TypeId) (B : Nat) (w : World) (P : Value) (ps : List Int) : Prop := w.ownsRow B t 1 P ps.length (ints ps)
def Played (os : List Op4) (w : World) (e : Ending) (w' : World) : Prop :=
  ∃ E P L, e = .returned (.tuple #[E, P, L]) ∧ NumsIs 28 w.heap.size w' E (run q0 os).1 ∧ IntsIs w.heap.size w' P (run q0 os).2.1 ∧
    IntsIs w.heap.size w' L (drainF (run q0 os).2.2.n (run q0 os).2.2.M) ∧ Below w.heap.size w w'

/-- Play under way: i operations are done. -/
structure PlI (os : List Op4) (w : World) (q m eb i : Nat) (wr : World) : Prop where
  ex : ∃ P, QT w.heap.size q m P (run q0 (os.take i)).2.2.n (run q0 (os.take i)).2.2.M wr ∧ IntsIs w.heap.size wr P (run q0 (os.take i)).2.1
  errs : ∃ F, wr.rowIs eb 28 os.length F ∧ ∀ j, j < i → F j = .int .i64 ((run q0 (os.take i)).1.getD j 0)
  below : Below w.heap.size w wr

theorem pl_start (os : List Op4) (w : World) : PlI os w (w.heap.size + 1) w.heap.size (w.heap.size + 1 + 1) 0
    (((w.alloc (.map #[] 0)).alloc (.cells #[.slice none 0 0, .map (some w.heap.size), .slice none 0 0] 55)).alloc (.cells (madeCells #[.int .i64 0] os.length) 28)) := by
  have s1 : (w.alloc (.map #[] 0)).heap.size = w.heap.size + 1 := by simp
  have s2 : ((w.alloc (.map #[] 0)).alloc (.cells #[.slice none 0 0, .map (some w.heap.size), .slice none 0 0] 55)).heap.size = w.heap.size + 1 + 1 := by simp
  have hm : MapIs (w.alloc (.map #[] 0)) w.heap.size 0 (fun _ => none) := MapIs.made w
  have hm1 : MapIs ((w.alloc (.map #[] 0)).alloc (.cells #[.slice none 0 0, .map (some w.heap.size), .slice none 0 0] 55)) w.heap.size 0 (fun _ => none) := hm.of_block (Below.heap_alloc _ _ _ (by rw [s1]; omega))
  have hq : ((w.alloc (.map #[] 0)).alloc (.cells #[.slice none 0 0, .map (some w.heap.size), .slice none 0 0] 55)).rowIs (w.heap.size + 1) 55 3 (tri (.slice none 0 0) (.map (some w.heap.size)) (.slice none 0 0)) := by
    have := World.rowIs_alloc (w.alloc (.map #[] 0)) #[.slice none 0 0, .map (some w.heap.size), .slice none 0 0] 55 (tri (.slice none 0 0) (.map (some w.heap.size)) (.slice none 0 0)) (fun i hi => by
      have hi : i < 3 := hi
      rcases i with _ | _ | _ | i
      · rfl
      · rfl
      · rfl
      · omega)
    rwa [s1] at this
  have hb : Below w.heap.size w ((w.alloc (.map #[] 0)).alloc (.cells #[.slice none 0 0, .map (some w.heap.size), .slice none 0 0] 55)) := ((Below.refl _ _).alloc (Nat.le_refl _) _).alloc (by rw [s1]; omega) _
  have he := World.rowIs_made ((w.alloc (.map #[] 0)).alloc (.cells #[.slice none 0 0, .map (some w.heap.size), .slice none 0 0] 55)) (.int .i64 0) os.length 28
  rw [s2] at he
  refine ⟨⟨.slice none 0 0, ⟨fun _ => ⟨0, 0, 0⟩, .inl ⟨rfl, hq.alloc _, _, hm1.of_block (Below.heap_alloc _ _ _ (by rw [s2]; omega)), fun x v => ⟨fun h => (by cases h), fun ⟨j, hj, _⟩ => (by omega)⟩⟩, fun j _ hj => absurd hj (by simp [run, q0]), ⟨fun j hj => absurd hj (by simp [run, q0]), fun x k hx => (by cases hx), fun i j hi => absurd hi (by simp [run, q0])⟩⟩, IntsIs.nil _ _⟩, ⟨_, he, fun j hj => absurd hj (by omega)⟩, hb.alloc (by rw [s2]; omega) _⟩

theorem take_snoc {α : Type} {os : List α} {i : Nat} {o : α} (h : os[i]? = some o) : os.take (i + 1) = os.take i ++ [o] := by
  rw [List.take_add_one, h]; rfl

theorem pl_ahead {os : List Op4} {w wr w1 : World} {q m eb i : Nat} {o : Op4} (h : PlI os w q m eb i wr) (ho : os[i]? = some o) (hid : ∀ o ∈ os, I64 o.id) (hn : os.length + 1 ≤ 5000000000000) (hb : Below wr.heap.size wr w1) :
    ∃ P, Ahead w.heap.size q m (run q0 (os.take i)).2.2 o P (run q0 (os.take i)).2.1 w1 := by
  obtain ⟨P, h1, h2⟩ := h.ex
  have hi : i < os.length := by
    rcases Nat.lt_or_ge i os.length with h | h
    · exact h
    · rw [List.getElem?_eq_none h] at ho; cases ho
  obtain ⟨b1, b2⟩ := run_bound q0 (os.take i)
  have hl : (os.take i).length ≤ i := by rw [List.length_take]; omega
  have h0 : q0.n = 0 := rfl
  exact ⟨P, h1.below hb, h2.below hb, Nat.le_trans h.below.size hb.size, by omega, by omega, hid o (List.mem_of_getElem? ho)⟩

theorem pl_next {os : List Op4} {w wr w1 w2 : World} {q m eb i : Nat} {o : Op4} {e : Ending} (h : PlI os w q m eb i wr) (ho : os[i]? = some o) (hb : Below wr.heap.size wr w1) (hq : w.heap.size ≤ q) (hm : w.heap.size ≤ m) (he : w.heap.size ≤ eb)
    (hp : Performed w.heap.size q m (run q0 (os.take i)).2.2 o (run q0 (os.take i)).2.1 w1 e w2) :
    ∃ c, e = .returned (.int .i64 c) ∧ (∃ u, w2.cell? ⟨eb, i, none⟩ = some u) ∧ w2.frozen? ⟨eb, i, none⟩ = false ∧ PlI os w q m eb (i + 1) (w2.setCell ⟨eb, i, none⟩ (.int .i64 c)) := by
  obtain ⟨rfl, P', hQ, hI, hf⟩ := hp
  obtain ⟨F, hF, hFj⟩ := h.errs
  obtain ⟨P, h1, h2⟩ := h.ex
  have hi : i < os.length := by
    rcases Nat.lt_or_ge i os.length with h | h
    · exact h
    · rw [List.getElem?_eq_none h] at ho; cases ho
  have hF1 := hF.of_block (hb.block eb hF.lt)
  have hneq : eb ≠ q := by
    obtain ⟨f, hQ0, _⟩ := h1
    obtain ⟨A, cap, hr⟩ := hQ0.row
    exact row_ne hF hr (by decide)
  have hnem : eb ≠ m := by
    obtain ⟨f, hQ0, _⟩ := h1
    obtain ⟨p, hp, _⟩ := hQ0.place
    exact row_ne_map hF hp
  have hF2 := hf.row hF1 (by unfold T713; decide) hneq hnem
  have hl : (run q0 (os.take i)).1.length = i := by rw [run_length, List.length_take]; omega
  have hb2 : Below w.heap.size w w2 := (h.below.trans (hb.mono h.below.size)).trans (hf.below (Nat.le_trans h.below.size hb.size) hq hm)
  have hcs : Chg (fun k => k = eb) w2 (w2.setCell ⟨eb, i, none⟩ (.int .i64 (step (run q0 (os.take i)).2.2 o).1)) := (Chg.refl (fun k => k = eb) w2).set (p := ⟨eb, i, none⟩) (.inl rfl) _
  refine ⟨_, rfl, ⟨_, hF2.cell hi⟩, hF2.frozen i, ⟨P', ?_, ?_⟩, ⟨_, hF2.set i _, fun j hj => ?_⟩, hb2.trans (hcs.below hb2.size (fun k e => by omega))⟩
  · rw [take_snoc ho, run_snoc]
    obtain ⟨f, hQ', hh⟩ := hQ
    refine ⟨f, ?_, hh⟩
    rcases hQ' with ⟨h0, hr, p, hp, hpo⟩ | ⟨g, cap, hg, hQ'⟩
    · exact .inl ⟨h0, hr.of_block (hcs.block q hr.lt (fun e => hneq e.symm)), p, hp.of_block (hcs.block m hp.lt (fun e => hnem e.symm)), hpo⟩
    · obtain ⟨G, hG, _⟩ := hQ'.items
      exact .inr ⟨g, cap, hg, hQ'.keep hcs (fun e => hneq e.symm) (row_ne hG hF2 (by decide)) (fun e => hnem e.symm)⟩
  · rw [take_snoc ho, run_snoc]
    refine hI.chg hcs (fun k hk e => ?_)
    obtain ⟨c, hc⟩ := hI.typed hk
    exact row_typed hF2 hc (by decide) e.symm
  · rw [take_snoc ho, run_snoc]
    by_cases e : j = i
    · simp only [e, if_true]
      rw [List.getD_eq_getElem?_getD, List.getElem?_append_right (by omega), hl, Nat.sub_self]; rfl
    · simp only [e, if_false]
      rw [hFj j (by omega), List.getD_eq_getElem?_getD, List.getD_eq_getElem?_getD, List.getElem?_append_left (by omega)]

theorem pl_ops {os : List Op4} {w wr : World} {q m eb i b off : Nat} (h : PlI os w q m eb i wr) (hO : OpsAt w b off os ∧ (0 < os.length → b < w.heap.size)) : OpsAt wr b off os := hO.1.below h.below hO.2
theorem pl_call {os : List Op4} {w wr : World} {q m eb i n : Nat} {o : Op4} (h : PlI os w q m eb i wr) (ho : os[i]? = some o) (hx : os.length = n ∧ n + 1 ≤ 5000000000000 ∧ ∀ o ∈ os, I64 o.id) :
    Calls Try.prog 23 #[.pointer (some ⟨q, 0, none⟩), .agg #[.int .i64 o.kind, .int .i64 o.id, .int .u64 o.hi, .int .u64 o.lo]] (wr.alloc (.cells #[.int .i64 o.kind, .int .i64 o.id, .int .u64 o.hi, .int .u64 o.lo] 37)) (Performed w.heap.size q m (run q0 (os.take i)).2.2 o (run q0 (os.take i)).2.1 (wr.alloc (.cells #[.int .i64 o.kind, .int .i64 o.id, .int .u64 o.hi, .int .u64 o.lo] 37))) := by
  obtain ⟨P, hP⟩ := pl_ahead h ho hx.2.2 (by omega) ((Below.refl _ _).alloc (Nat.le_refl _) _)
  exact perform_any hP

theorem nums_of_row {t : TypeId} {w : World} {B eb n : Nat} {F : Nat → Value} {es : List Int} (h : w.rowIs eb t n F) (hB : B ≤ eb) (hn : n ≤ maxLen) (hl : es.length = n) (hF : ∀ j, j < n → F j = .int .i64 (es.getD j 0)) : NumsIs t B w (.slice (some ⟨eb, 0, none⟩) n n) es := by
  obtain ⟨c, hb, hs, hc⟩ := h
  refine ⟨by simp [ints], .inr ⟨eb, n, c, by rw [hl], hB, hb, by omega, hn, by omega, ?_⟩⟩
  apply List.ext_getElem?
  intro j
  rw [hl, Nat.mul_one]
  rcases Nat.lt_or_ge j n with hj | hj
  · rw [List.getElem?_take_of_lt hj, Array.getElem?_toList, hc j hj, hF j hj]
    simp [ints, List.getElem?_eq_getElem (show j < es.length by omega)]
  · rw [List.getElem?_eq_none (by rw [List.length_take]; omega), List.getElem?_eq_none (by simp [ints]; omega)]

theorem pl_end {os : List Op4} {w wr : World} {q m eb n : Nat} (h : PlI os w q m eb n wr) (hlen : os.length = n) (hx : n + 1 ≤ 5000000000000 ∧ ∀ o ∈ os, I64 o.id) :
    ∃ P, wr.cell? ⟨q, 2, none⟩ = some P ∧ (∀ W, Chg (fun _ => False) wr W → Calls Try.prog 24 #[.pointer (some ⟨q, 0, none⟩)] W (Drained w.heap.size q m P (run q0 os).2.2.n (run q0 os).2.2.M W)) ∧
      ∀ W e w', Chg (fun _ => False) wr W → w.heap.size ≤ q → w.heap.size ≤ m → w.heap.size ≤ eb → Drained w.heap.size q m P (run q0 os).2.2.n (run q0 os).2.2.M W e w' →
        ∃ v, e = .returned v ∧ w'.cell? ⟨q, 2, none⟩ = some P ∧ Played os w (.returned (.tuple #[.slice (some ⟨eb, 0, none⟩) n n, P, v])) w' := by
  obtain ⟨P, h1, h2⟩ := h.ex
  obtain ⟨F, hF, hFj⟩ := h.errs
  have ht : os.take n = os := by rw [← hlen]; exact List.take_length
  rw [ht] at h1 h2 hFj
  obtain ⟨b1, b2⟩ := run_bound q0 os
  have h0 : q0.n = 0 := rfl
  refine ⟨P, ?_, fun W hW => drain_any (h1.ints hW (fun _ e => e.elim)) (by omega), ?_⟩
  · obtain ⟨f, hQ, _⟩ := h1; exact hQ.c2
  · rintro W e w' hW hq hm he ⟨v, rfl, hv, hc2, hf⟩
    have h1W := h1.ints hW (fun _ e => e.elim)
    have h2W := h2.chg hW (fun _ _ => id)
    have hFW := hF.of_block (hW.block eb hF.lt id)
    obtain ⟨f, hQ, _⟩ := id h1W
    obtain ⟨A, cap, hr⟩ := hQ.row
    obtain ⟨p, hp, _⟩ := hQ.place
    have hF2 := hf.row hFW (by unfold T71; decide) (row_ne hFW hr (by decide)) (row_ne_map hFW hp)
    have hbW : Below w.heap.size w W := h.below.trans (hW.below h.below.size (fun _ e => e.elim))
    have hb2 : Below w.heap.size w w' := hbW.trans (hf.below hbW.size hq hm)
    rw [hlen] at hF2
    refine ⟨v, rfl, hc2, _, _, _, rfl, nums_of_row hF2 he (by simp only [maxLen]; omega) (by rw [run_length, hlen]) hFj, h2W.fr h1W hf, ?_, hb2⟩
    refine ⟨hv.1, ?_⟩
    rcases hv.2 with hv | ⟨g, cap', cur, rfl, hg, hr⟩
    · exact .inl hv
    · exact .inr ⟨g, cap', cur, rfl, Nat.le_trans hbW.size hg, hr⟩

set_option maxHeartbeats 1000000 in
theorem play_any {w : World} {os : List Op4} {A : Option Addr} {cap b off : Nat} (hA : 0 < os.length → A = some ⟨b, off, none⟩) (hO : OpsAt w b off os) (hb : 0 < os.length → b < w.heap.size) (hid : ∀ o ∈ os, I64 o.id) (hn : os.length + 1 ≤ 5000000000000) :
    Calls Try.prog 8 #[.slice A os.length cap] w (Played os w) := by
  have hst := pl_start os w
  obtain ⟨n, hlen⟩ : ∃ n, os.length = n := ⟨_, rfl⟩
  rw [hlen] at hst ⊢
  rw [hlen] at hn
  have HS := Lib.hid hst
  have HX := Lib.hid (And.intro hlen (And.intro hn hid))
  have HA := Lib.hid hA
  have HO := Lib.hid (And.intro hO hb)
  clear hst hlen hid hA hO hb
  have hmk := run_make_row' (P := Try.prog) 23 28 (.int .i64 0) 8 (by kernel_rfl) (by kernel_rfl) rfl .i64 .i64 n (by omega) (by omega)
  have hmm : ∀ W : World, (Instr.makeMap 52 none).run Try.prog W = .ok (.map (some W.heap.size)) (W.alloc (.map #[] 0)) := fun W => by kernel_rfl
  go_enter Try.func8, Try.ntmps8
  go_wp2
  go_loopg [16] n (fun k c wr => ∃ i : Nat, c = .int .i64 (i : Int) ∧ i + k = n ∧ Hid (PlI os w (w.heap.size + 1) w.heap.size (w.heap.size + 1 + 1) i wr))
  case atStart => exact ⟨0, rfl, by omega, HS⟩
  case round =>
    obtain ⟨i, rfl, hik, HI⟩ := hrel
    cases gk with
    | zero =>
      obtain rfl : i = n := by omega
      have HE := Lib.hid (pl_end HI.out HX.out.1 HX.out.2)
      obtain ⟨P, d2, hdr, hfin⟩ := HE.out
      have HD := Lib.hid hdr
      have HF := Lib.hid hfin
      clear hdr hfin HE
      go_wp2
      go_region_with (go_at_call 24; refine (HD.out _ ((Chg.refl _ wr).drew)).mono ?_; intro e w9 hx; obtain ⟨v, rfl, c2, hp⟩ := HF.out _ _ _ ((Chg.refl _ wr).drew) (by omega) (by omega) (by omega) hx; clear hx; have HP := Lib.hid hp; clear hp)
      all_goals
        go_wp2
        go_ret3
        exact HP.out
    | succ k =>
      have hi : i < n := by omega
      obtain ⟨o, ho⟩ : ∃ o, os[i]? = some o := ⟨os[i]'(by have := HX.out.1; omega), List.getElem?_eq_getElem _⟩
      have hA1 := HA.out (by have := HX.out.1; omega)
      subst hA1
      obtain ⟨a0, a1, a2, a3⟩ := (pl_ops HI.out HO.out) i o ho
      have HB := Lib.hid (pl_call HI.out ho HX.out)
      have i1 : (i : Int) < (n : Int) := by omega
      go_wp2_with fail
      refine HB.out.mono ?_
      intro e w2 hp
      obtain ⟨c, rfl, ⟨u, hcell⟩, hfz, hnext⟩ := pl_next HI.out ho ((Below.refl _ _).alloc (Nat.le_refl _) _) (by omega) (by omega) (by omega) hp
      have HN := Lib.hid hnext
      clear hp hnext a0 a1 a2 a3
      go_wp2
      go_roundg k
      case measure => omega
      case rel => exact ⟨i + 1, by go_num, by omega, HN⟩

end Go.Proofs.Ytbckppflfgdblaa
