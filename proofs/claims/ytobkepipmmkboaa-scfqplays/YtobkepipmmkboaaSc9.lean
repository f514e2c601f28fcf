/- Package scfq: Play. -/
import Derived.Test.YtobkepipmmkboaaSc8
namespace Go.Proofs.Ytobkepipmmkboaa
open Go.RowKit Go.Maps

/-- What Play answers. -/
def Out (w : World) (E : List Int) (S : List (Nat × Int)) (L : List Int) (err : Int) (e : Ending) (w' : World) : Prop :=
  ∃ A cA B cB D cD, e = .returned (.tuple #[.slice A E.length cA, .slice B S.length cB, .slice D L.length cD, .int .i64 err]) ∧ IntsIn w' A E ∧ SentIn w' B S ∧ IntsIn w' D L ∧ Below w.heap.size w w'
theorem out_empty {w w' : World} {err : Int} (hb : Below w.heap.size w w') : Out w [] [] [] err (.returned (.tuple #[.slice none 0 0, .slice none 0 0, .slice none 0 0, .int .i64 err])) w' :=
  ⟨none, 0, none, 0, none, 0, rfl, ⟨fun h => absurd h (by decide), by decide⟩, SentIn.nil _ _, ⟨fun h => absurd h (by decide), by decide⟩, hb⟩
theorem results_four {fn : Func} (a b c d : Tmp) (h : fn.results = #[.tmp a, .tmp b, .tmp c, .tmp d]) (tmps : Array Value) (w : World) :
    (results fn tmps).run Try.prog w = .ok (.tuple #[tmps.getD a undef, tmps.getD b undef, tmps.getD c undef, tmps.getD d undef]) w := by
  simp only [results, h]
  simp
theorem info_errno : (Try.prog.info? 26).map (fun i => (i.zero, i.size, i.bytes)) = some (some (.int .i64 0), 1, 8) := by kernel_rfl
/-- The link, and the errors beside it, on the way. -/
def PlIn (w wr : World) (lb fb eb m n : Nat) (xs : List Int) (t : ScAt) : Prop := w.heap.size ≤ eb ∧ wr.rowIs eb 26 m (fun j => .int .i64 (fn t.errs j)) ∧ ∃ o, LkT w wr lb fb eb o n xs t
theorem PlIn.later {w wr W : World} {lb fb eb m n : Nat} {xs : List Int} {t : ScAt} (h : PlIn w wr lb fb eb m n xs t) (hb : Below wr.heap.size wr W) : PlIn w W lb fb eb m n xs t := by
  obtain ⟨h1, h2, o, h3⟩ := h
  exact ⟨h1, h2.of_block (hb.block _ h2.lt), o, h3.later hb⟩
theorem PlIn.below {w wr : World} {lb fb eb m n : Nat} {xs : List Int} {t : ScAt} (h : PlIn w wr lb fb eb m n xs t) : Below w.heap.size w wr := by
  obtain ⟨_, _, o, v, Aq, cq, h⟩ := h
  exact h.below
/-- A link begins. -/
theorem pl_start {w w1 : World} {fb m n : Nat} {xs : List Int} (h : FlR w w1 fb n (fn xs)) (b0 : World) (hb0 : b0 = (w1.alloc (.cells #[.int .i64 0, .slice (some ⟨fb, 0, none⟩) n n, .slice none 0 0] 48)).alloc (.cells (madeCells #[.int .i64 0] m) 26)) :
    PlIn w b0 w1.heap.size fb (w1.heap.size + 1) m n xs ⟨[], [], Sc.zero⟩ := by
  subst hb0
  have hb1 : Below w1.heap.size w1 (w1.alloc (.cells #[.int .i64 0, .slice (some ⟨fb, 0, none⟩) n n, .slice none 0 0] 48)) := (Below.refl _ _).alloc (Nat.le_refl _) _
  have hsz : (w1.alloc (.cells #[.int .i64 0, .slice (some ⟨fb, 0, none⟩) n n, .slice none 0 0] 48)).heap.size = w1.heap.size + 1 := by simp
  have hr := World.rowIs_alloc w1 #[.int .i64 0, .slice (some ⟨fb, 0, none⟩) n n, .slice none 0 0] 48 (three (.int .i64 0) (.slice (some ⟨fb, 0, none⟩) n n) (.slice none 0 0)) (fun i hi => by
    have hi : i < 3 := hi
    rcases (by omega : i = 0 ∨ i = 1 ∨ i = 2) with rfl | rfl | rfl <;> rfl)
  have he := World.rowIs_made (w1.alloc (.cells #[.int .i64 0, .slice (some ⟨fb, 0, none⟩) n n, .slice none 0 0] 48)) (.int .i64 0) m 26
  have hb2 : Below (w1.heap.size + 1) (w1.alloc (.cells #[.int .i64 0, .slice (some ⟨fb, 0, none⟩) n n, .slice none 0 0] 48)) ((w1.alloc (.cells #[.int .i64 0, .slice (some ⟨fb, 0, none⟩) n n, .slice none 0 0] 48)).alloc (.cells (madeCells #[.int .i64 0] m) 26)) := (Below.refl _ _).alloc (by rw [hsz]; exact Nat.le_refl _) _
  rw [hsz] at he
  have hfl := h.row.lt
  have hws := h.below.size
  have he2 := he
  obtain ⟨c, hc, _⟩ := he2
  have hf := h.row.of_block (hb1.block _ hfl)
  refine ⟨by omega, he.congr fun j _ => rfl, _, .slice none 0 0, fun _ => none, fun _ => 0, (h.below.trans (hb1.mono hws)).trans (hb2.mono (by omega)), ⟨hws, h.far, by omega, by omega, by omega⟩, hc, hr.of_block (hb2.block _ (by omega)), OwnS.nil _ _, fun g hg => (by cases hg), hf.of_block (hb2.block _ (by omega)), fun k _ => ⟨FifoC.nil _ _ _ _, fun g hg => (by obtain ⟨_, e, _⟩ := hg; cases e), fun i _ _ g hg => (by obtain ⟨_, e, _⟩ := hg; cases e)⟩⟩
/-- An operation has been performed; its error is not yet written. -/
def PlMid (w wr : World) (lb fb eb m n : Nat) (xs : List Int) (t t' : ScAt) : Prop := w.heap.size ≤ eb ∧ wr.rowIs eb 26 m (fun j => .int .i64 (fn t.errs j)) ∧ ∃ o, LkT w wr lb fb eb o n xs t'
theorem PlIn.perform {w wr : World} {lb fb eb m n : Nat} {xs : List Int} {t : ScAt} (h : PlIn w wr lb fb eb m n xs t) (hn16 : n ≤ 16) (hR : Right xs) (hn : xs.length = n) (hL : t.st.Low 400) (hS : t.sent.length ≤ 400) (a f b : Int) :
    Calls Try.prog 17 #[.pointer (some ⟨lb, 0, none⟩), .agg #[.int .i64 a, .int .i64 f, .int .i64 b]] wr fun e w' => e = .returned (.int .i64 (scErr n t.st (a, f, b))) ∧ PlMid w w' lb fb eb m n xs t (t.step (uW xs) n (a, f, b)) := by
  obtain ⟨h1, h2, o, h3⟩ := h
  refine (perform_any h3 hn16 hR hn hL hS a f b).mono ?_
  rintro e w' ⟨rfl, h4⟩
  refine ⟨rfl, h1, h2.of_block ?_, o, h4⟩
  obtain ⟨_, _, _, k3⟩ := h3
  obtain ⟨_, _, _, k4⟩ := h4
  exact k4.er.trans k3.er.symm
theorem step_errs (u : Nat → Int) (n : Nat) (t : ScAt) (o : Int × Int × Int) : (t.step u n o).errs = t.errs ++ [scErr n t.st o] := by
  rcases t.way u n o with ⟨_, e⟩ | ⟨f, _, _, _, _, _, he, e⟩ | ⟨f, b, g, _, _, _, he, e⟩
  · rw [e]
  · rw [e, he]
  · rw [e, he]
theorem fn_snoc (xs : List Int) (y : Int) (j : Nat) : fn (xs ++ [y]) j = if j = xs.length then y else fn xs j := by
  unfold fn
  rw [List.getD_eq_getElem?_getD, List.getD_eq_getElem?_getD]
  by_cases c : j = xs.length
  · subst c
    rw [if_pos rfl, List.getElem?_concat_length]
    rfl
  · rw [if_neg c]
    by_cases d : j < xs.length
    · rw [List.getElem?_append_left d]
    · rw [List.getElem?_eq_none (by rw [List.length_append, List.length_singleton]; omega), List.getElem?_eq_none (by omega)]
theorem PlMid.seat {w wr : World} {lb fb eb m n : Nat} {xs : List Int} {t t' : ScAt} (h : PlMid w wr lb fb eb m n xs t t') {i : Nat} (hi : i < m) : wr.cell? ⟨eb, i, none⟩ = some (.int .i64 (fn t.errs i)) ∧ wr.frozen? ⟨eb, i, none⟩ = false := ⟨h.2.1.cell hi, h.2.1.frozen i⟩
theorem PlMid.put {w wr : World} {lb fb eb m n : Nat} {xs : List Int} {t t' : ScAt} (h : PlMid w wr lb fb eb m n xs t t') {i : Nat} {y : Int} (he : t'.errs = t.errs ++ [y]) (hl : t.errs.length = i) : PlIn w (wr.setCell ⟨eb, i, none⟩ (.int .i64 y)) lb fb eb m n xs t' := by
  obtain ⟨h1, h2, o, v, Aq, cq, h3⟩ := h
  have hr := h2.set i (.int .i64 y)
  have hr2 := hr
  obtain ⟨c, hc, _⟩ := hr2
  refine ⟨h1, hr.congr fun j _ => ?_, _, v, Aq, cq, h3.putE i (.int .i64 y) h1 hc⟩
  rw [he, fn_snoc, hl]
  by_cases e : j = i
  · rw [if_pos e, if_pos e]
  · rw [if_neg e, if_neg e]
/-- What is known at the end. -/
theorem PlIn.out {w wr : World} {lb fb eb m n : Nat} {xs : List Int} {t : ScAt} (h : PlIn w wr lb fb eb m n xs t) (hm : m ≤ 400) (he : t.errs.length = m) : wr.cell? ⟨lb, 2, none⟩ = wr.cell? ⟨lb, 2, none⟩ ∧ lb < wr.heap.size ∧ ∃ B cB, wr.cell? ⟨lb, 2, none⟩ = some (.slice B t.sent.length cB) ∧ ∀ W g, IntsIn W (some ⟨g, 0, none⟩) (leftL n t.st) → Below wr.heap.size wr W → Out w t.errs t.sent (leftL n t.st) 0 (.returned (.tuple #[.slice (some ⟨eb, 0, none⟩) m m, .slice B t.sent.length cB, .slice (some ⟨g, 0, none⟩) n n, .int .i64 0])) W := by
  obtain ⟨h1, h2, o, v, Aq, cq, h3⟩ := h
  obtain ⟨B, cB, rfl, hS⟩ := h3.sent.form
  refine ⟨rfl, h3.row.lt, B, cB, h3.c2, fun W g hI hb => ⟨some ⟨eb, 0, none⟩, m, B, cB, some ⟨g, 0, none⟩, n, by rw [he, leftL_length], ⟨fun h0 => ⟨eb, 0, rfl, Nat.lt_of_lt_of_le h2.lt hb.size, fun j x hx => ?_⟩, by omega⟩, hS.below hb, hI, h3.below.trans (hb.mono h3.below.size)⟩⟩
  have hj := lt_of_some hx
  rw [Nat.zero_add, (hb.cell (p := ⟨eb, j, none⟩) h2.lt), h2.cell (by omega), fn_at hx]

set_option maxRecDepth 100000 in
set_option maxHeartbeats 8000000 in
theorem play_ok {w : World} {P Q : Option Addr} {xs : List Int} {os : List (Int × Int × Int)} (hx : IntsIn w P xs) (hy : ThreeIn w Q os) (hR : Right xs) (hm : os.length ≤ 400) (cx cy : Nat) :
    Calls Try.prog 7 #[.slice P xs.length cx, .slice Q os.length cy] w (Out w (scRun (uW xs) xs.length os).errs (scRun (uW xs) xs.length os).sent (leftL xs.length (scRun (uW xs) xs.length os).st) 0) := by
  have HW := Lib.hid (wrong_any hx cx)
  rw [hR.wrong] at HW
  obtain ⟨n, hn⟩ : ∃ n, xs.length = n := ⟨_, rfl⟩
  obtain ⟨m, hmm⟩ : ∃ m, os.length = m := ⟨_, rfl⟩
  have hn16 : n ≤ 16 := by rw [← hn]; exact hR.few
  have HID := Lib.hid (idle_any hx hn hn16 cx)
  have HAT := Lib.hid (fun i => scRun_at hR hm i)
  have HX := Lib.hid (fun W (hW : Below w.heap.size w W) => hy.below hW)
  have HST := Lib.hid (fun i o (h : os[i]? = some o) => scRun_succ (uW xs) n h)
  have HPF : Hid (∀ W lb fb eb i (a f b : Int), PlIn w W lb fb eb m n xs (scRun (uW xs) n (os.take i)) → Calls Try.prog 17 #[.pointer (some ⟨lb, 0, none⟩), .agg #[.int .i64 a, .int .i64 f, .int .i64 b]] W fun e w' => e = .returned (.int .i64 (scErr n (scRun (uW xs) n (os.take i)).st (a, f, b))) ∧ PlMid w w' lb fb eb m n xs (scRun (uW xs) n (os.take i)) ((scRun (uW xs) n (os.take i)).step (uW xs) n (a, f, b))) := Lib.hid (fun W lb fb eb i a f b h => by
    have := scRun_at hR hm i
    rw [hn] at this
    exact h.perform hn16 hR hn this.1 this.2.2.1 a f b)
  have HM := Lib.hid hmm
  have HO := Lib.hid (fun W lb fb eb (h : PlIn w W lb fb eb m n xs (scRun (uW xs) n (os.take m))) => h.out (by omega) (by
    have := (scRun_at hR hm m).2.1
    rw [hn] at this
    omega))
  have HWT : Hid (∀ W lb fb eb, PlIn w W lb fb eb m n xs (scRun (uW xs) n (os.take m)) → Calls Try.prog 18 #[.pointer (some ⟨lb, 0, none⟩)] W fun e w' => ∃ g, e = .returned (.slice (some ⟨g, 0, none⟩) n n) ∧ IntsIn w' (some ⟨g, 0, none⟩) (leftL n (scRun (uW xs) n (os.take m)).st) ∧ Below W.heap.size W w') := Lib.hid (fun W lb fb eb h => by
    obtain ⟨_, _, o, h⟩ := h
    have := (scRun_at hR hm m).1.few
    rw [hn] at this
    exact waiting_any h this hn16)
  have HPS := Lib.hid (fun w1 fb (h : FlR w w1 fb n (fn xs)) b0 hb0 => pl_start (m := m) h b0 hb0)
  have HER : Hid (∀ i, i < m → (scRun (uW xs) n (os.take i)).errs.length = i) := Lib.hid (fun i hi => by
    have := (HAT.out i).2.1
    rw [hn] at this
    omega)
  have hm4 : m ≤ 400 := by omega
  have hmk := run_make_row' (P := Try.prog) 24 26 (.int .i64 0) 8 Try.underlying24 info_errno rfl .i64 .i64 m (by omega) (by omega)
  have HT : Hid (os.take m = os) := Lib.hid (List.take_of_length_le (by omega))
  rw [hn] at HW ⊢
  rw [hmm]
  clear hx hy hR hm hn hmm HAT
  have hd : decide (400 < (m : Int)) = false := by rw [decide_eq_false_iff_not]; omega
  go_enter Try.func7, Try.ntmps7
  go_wp2_with fail
  refine HW.out.mono ?_
  rintro e w1 ⟨rfl, rfl⟩
  clear HW
  go_wp2_with fail
  refine HID.out.mono ?_
  rintro e w1 ⟨fb, rfl, hfl⟩
  have H0 := Lib.hid (HPS.out _ _ hfl _ rfl)
  clear hfl HPS HID
  go_upto_region 8 with fail
  clear hmk
  rw [HT.out] at HO HWT
  generalize Out w (scRun (uW xs) n os).errs (scRun (uW xs) n os).sent (leftL n (scRun (uW xs) n os).st) 0 = D at *
  generalize (w1.alloc (.cells #[.int .i64 0, .slice (some ⟨fb, 0, none⟩) n n, .slice none 0 0] 48)).alloc (.cells (madeCells #[.int .i64 0] m) 26) = w2 at *
  obtain ⟨eb, heb⟩ : ∃ eb, w1.heap.size + 1 = eb := ⟨_, rfl⟩
  rw [heb] at H0 ⊢
  obtain ⟨lb, hlb⟩ : ∃ lb, w1.heap.size = lb := ⟨_, rfl⟩
  rw [hlb] at H0 ⊢
  clear heb hlb hd
  go_wp2_with fail
  go_loopg [29] m (fun z c wi => ∃ i : Nat, c = .int .i64 (i : Int) ∧ i + z = m ∧ Hid (PlIn w wi lb fb eb m n xs (scRun (uW xs) n (os.take i))))
  case atStart => exact ⟨0, rfl, by omega, H0⟩
  case round =>
    clear H0
    obtain ⟨i, rfl, hiz, HI⟩ := hrel
    cases gk with
    | zero =>
      obtain rfl : i = m := by omega
      rw [HT.out] at HI
      clear HPF HST HX HER HM HT
      obtain ⟨-, hl, B, cB, c2, hZ⟩ := HO.out _ _ _ _ HI.out
      have HZ := Lib.hid hZ
      have HC := Lib.hid (HWT.out wr.drew lb fb eb (HI.out.later (Below.refl _ _).drew))
      clear hZ HO HWT HI
      generalize (scRun (uW xs) n os).sent.length = sl at *
      generalize leftL n (scRun (uW xs) n os).st = LL at *
      go_upto_region 13 with fail
      go_region_with (go_at_call 18; refine HC.out.mono ?_; rintro e w4 ⟨g, rfl, hI, hb⟩; have c3 := (hb.cell (p := ⟨lb, 2, none⟩) (by exact hl)).trans (by exact c2); have HY := Lib.hid (HZ.out w4 g hI ((Below.refl _ _).drew.trans hb)); clear hI hb)
      all_goals
        go_wp2_with fail
        exact bodyPost_ret (results_four 4 5 6 7 rfl _ _) rfl HY.out
    | succ z =>
      have hi : i < m := by omega
      have i1 : (i : Int) < (m : Int) := by omega
      obtain ⟨b, off, x, y, u, rfl, hx, ⟨hat0, hat1, hat2⟩, hbl⟩ := (HX.out _ HI.out.below).next (i := i) (by rw [HM.out]; exact hi)
      have HC := Lib.hid (HPF.out _ _ _ _ i x y u (HI.out.later ((Below.refl _ _).alloc (Nat.le_refl _) (.cells #[.int .i64 x, .int .i64 y, .int .i64 u] 40))))
      have HS := Lib.hid (And.intro (HST.out i _ hx) (And.intro (HER.out i hi) (step_errs (uW xs) n (scRun (uW xs) n (os.take i)) (x, y, u))))
      have HIZ := Lib.hid hiz
      clear HI HX HPF HST HER HO HWT HT HM hx hiz
      generalize scRun (uW xs) n (os.take i) = t at *
      go_wp2_with fail
      refine HC.out.mono ?_
      rintro e w4 ⟨rfl, hp⟩
      obtain ⟨q0, q1⟩ := hp.seat hi
      have HQ := Lib.hid (hp.put HS.out.2.2 HS.out.2.1)
      rw [← HS.out.1] at HQ
      clear hp HC hat0 hat1 hat2 hbl HS
      generalize scErr n t.st (x, y, u) = E at *
      go_wp2_with fail
      go_roundg z
      case measure => omega
      case rel => exact ⟨i + 1, by go_num, by have := HIZ.out; omega, HQ⟩
end Go.Proofs.Ytobkepipmmkboaa
