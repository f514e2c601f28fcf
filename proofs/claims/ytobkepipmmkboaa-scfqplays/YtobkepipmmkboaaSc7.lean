/- Package scfq: perform, waiting. -/
import Derived.Test.YtobkepipmmkboaaSc6
import Derived.Test.YtobkepipmmkboaaRwI
namespace Go.Proofs.Ytobkepipmmkboaa
open Go.RowKit Go.Maps

theorem scErr_in {n : Nat} {s : Sc} {f b : Int} : scErr n s (1, f, b) = inErr n f b := rfl
theorem LkE.later {w wr W : World} {lb fb eb n : Nat} {o : Obj} {xs : List Int} {S : List (Nat × Int)} {s : Sc} (h : LkE w wr lb fb eb o n xs S s) (hb : Below wr.heap.size wr W) : LkE w W lb fb eb o n xs S s := by
  obtain ⟨v, Aq, cq, h⟩ := h
  exact ⟨v, Aq, cq, h.later hb⟩
/-- A link after some operations. -/
def LkT (w wr : World) (lb fb eb : Nat) (o : Obj) (n : Nat) (xs : List Int) (t : ScAt) : Prop := LkE w wr lb fb eb o n xs t.sent t.st
theorem LkT.later {w wr W : World} {lb fb eb n : Nat} {o : Obj} {xs : List Int} {t : ScAt} (h : LkT w wr lb fb eb o n xs t) (hb : Below wr.heap.size wr W) : LkT w W lb fb eb o n xs t := LkE.later h hb
set_option maxRecDepth 100000 in
set_option maxHeartbeats 8000000 in
theorem perform_any {w wr : World} {lb fb eb n : Nat} {o : Obj} {xs : List Int} {t : ScAt} (h : LkT w wr lb fb eb o n xs t) (hn16 : n ≤ 16) (hR : Right xs) (hn : xs.length = n) (hL : t.st.Low 400) (hS : t.sent.length ≤ 400) (a f b : Int) :
    Calls Try.prog 17 #[.pointer (some ⟨lb, 0, none⟩), .agg #[.int .i64 a, .int .i64 f, .int .i64 b]] wr fun e w' => e = .returned (.int .i64 (scErr n t.st (a, f, b))) ∧ LkT w w' lb fb eb o n xs (t.step (uW xs) n (a, f, b)) := by
  have h4 := hL.few
  have hb : Below wr.heap.size wr (wr.alloc (.cells #[.int .i64 a, .int .i64 f, .int .i64 b] 40)) := (Below.refl _ _).alloc (Nat.le_refl _) _
  have h1 := h.later hb
  unfold LkT at h1
  by_cases a1 : a = 1
  · subst a1
    rcases t.way (uW xs) n (1, f, b) with ⟨he, e⟩ | ⟨k, _, h2, hk, hb1, hb2, he, e⟩ | ⟨k, b', g, h2, _⟩
    · have H := Lib.hid (in_bad h1 hn16 (f := f) (b := b) rfl he)
      have HZ : Hid (LkT w (wr.alloc (.cells #[.int .i64 1, .int .i64 f, .int .i64 b] 40)) lb fb eb o n xs (t.step (uW xs) n (1, f, b))) := Lib.hid (by rw [e]; exact h1)
      rw [scErr_in]
      generalize inErr n f b = E at *
      clear h h1 hb he e
      go_enter Try.func17, Try.ntmps17
      go_wp2_with fail
      refine H.out.mono ?_
      rintro e w1 ⟨rfl, rfl⟩
      go_wp2_with fail
      go_ret
      exact ⟨rfl, HZ.out⟩
    · have h2 : f = (k : Int) := h2
      subst h2
      have H := Lib.hid (in_ok h1 hn16 hR hn hk (b := b) ⟨hb1, hb2⟩ hL)
      have HZ : Hid (∀ W, LkE w W lb fb eb o n xs t.sent (t.st.come (uW xs) k b) → LkT w W lb fb eb o n xs (t.step (uW xs) n (1, (k : Int), b))) := Lib.hid (fun W hW => by rw [e]; exact hW)
      rw [he]
      clear h h1 hb he e
      generalize (k : Int) = f at *
      go_enter Try.func17, Try.ntmps17
      go_wp2_with fail
      refine H.out.mono ?_
      rintro e w1 ⟨rfl, hw⟩
      have HY := Lib.hid (HZ.out _ hw)
      clear hw
      go_wp2_with fail
      go_ret
      exact ⟨rfl, HY.out⟩
    · exact absurd h2 (by show ¬ (1 : Int) = 2; decide)
  · by_cases a2 : a = 2
    · subst a2
      cases hbf : bestF t.st.q n with
      | none =>
        have he : scErr n t.st (2, f, b) = 3 := by
          unfold scErr
          rw [if_neg (by show ¬ (2 : Int) = 1; decide), if_pos rfl, hbf, if_pos rfl]
        have e : t.step (uW xs) n (2, f, b) = ⟨t.errs ++ [3], t.sent, t.st⟩ := by
          unfold ScAt.step
          rw [if_neg (by rw [he]; decide), he]
        have H := Lib.hid (out_none h1 h4 hn16 hbf)
        have HZ : Hid (∀ W, Below (wr.alloc (.cells #[.int .i64 2, .int .i64 f, .int .i64 b] 40)).heap.size (wr.alloc (.cells #[.int .i64 2, .int .i64 f, .int .i64 b] 40)) W → LkT w W lb fb eb o n xs (t.step (uW xs) n (2, f, b))) := Lib.hid (fun W hW => by rw [e]; exact h1.later hW)
        rw [he]
        clear h h1 hb he e hbf a1
        go_enter Try.func17, Try.ntmps17
        go_wp2_with fail
        refine H.out.mono ?_
        rintro e w1 ⟨rfl, hw⟩
        have HY := Lib.hid (HZ.out _ hw)
        clear hw
        go_wp2_with fail
        go_ret
        exact ⟨rfl, HY.out⟩
      | some x =>
        obtain ⟨k, b', g⟩ := x
        have he : scErr n t.st (2, f, b) = 0 := by
          unfold scErr
          rw [if_neg (by show ¬ (2 : Int) = 1; decide), if_pos rfl, hbf, if_neg (by simp)]
        have e : t.step (uW xs) n (2, f, b) = ⟨t.errs ++ [0], t.sent ++ [(k, b')], t.st.send k g⟩ := by
          unfold ScAt.step
          rw [if_pos he, if_neg (by show ¬ (2 : Int) = 1; decide), hbf]
        have H := Lib.hid (out_some h1 h4 hn16 (by omega) hbf)
        have HZ : Hid (∀ W, LkE w W lb fb eb o n xs (t.sent ++ [(k, b')]) (t.st.send k g) → LkT w W lb fb eb o n xs (t.step (uW xs) n (2, f, b))) := Lib.hid (fun W hW => by rw [e]; exact hW)
        rw [he]
        clear h h1 hb he e hbf a1
        go_enter Try.func17, Try.ntmps17
        go_wp2_with fail
        refine H.out.mono ?_
        rintro e w1 ⟨rfl, hw⟩
        have HY := Lib.hid (HZ.out _ hw)
        clear hw
        go_wp2_with fail
        go_ret
        exact ⟨rfl, HY.out⟩
    · have he : scErr n t.st (a, f, b) = 5 := by
        unfold scErr
        rw [if_neg a1, if_neg a2]
      have HZ : Hid (LkT w (wr.alloc (.cells #[.int .i64 a, .int .i64 f, .int .i64 b] 40)) lb fb eb o n xs (t.step (uW xs) n (a, f, b))) := Lib.hid (by
        unfold ScAt.step
        rw [if_neg (by rw [he]; decide)]
        exact h1)
      have b1 : (a == 1) = false := by simpa using a1
      have b2 : (a == 2) = false := by simpa using a2
      rw [he]
      clear h h1 hb he a1 a2
      go_enter Try.func17, Try.ntmps17
      go_wp2_with fail
      go_ret
      exact ⟨rfl, HZ.out⟩

/-! ### waiting -/
theorem info_int8 : (Try.prog.info? 3).map (fun i => (i.zero, i.size, i.bytes)) = some (some (.int .i64 0), 1, 8) := by kernel_rfl
/-- How many of each flow wait. -/
def leftL (n : Nat) (s : Sc) : List Int := (List.range n).map fun k => ((s.q k).length : Int)
theorem leftL_length (n : Nat) (s : Sc) : (leftL n s).length = n := by simp [leftL]
set_option maxRecDepth 100000 in
set_option maxHeartbeats 8000000 in
theorem waiting_any {w wa : World} {lb fb eb n : Nat} {o : Obj} {xs : List Int} {S : List (Nat × Int)} {s : Sc} (h : LkE w wa lb fb eb o n xs S s) (h4 : ∀ k, (s.q k).length ≤ 400) (hn16 : n ≤ 16) :
    Calls Try.prog 18 #[.pointer (some ⟨lb, 0, none⟩)] wa fun e w' => ∃ g, e = .returned (.slice (some ⟨g, 0, none⟩) n n) ∧ IntsIn w' (some ⟨g, 0, none⟩) (leftL n s) ∧ Below wa.heap.size wa w' := by
  obtain ⟨v, Aq, cq, h⟩ := h
  have c1 := h.c1
  have hl := h.row.lt
  have HF : Hid (∀ i, i < n → ∀ W, Below wa.heap.size wa W → (W.cell? ⟨fb, i * 3, none⟩ = some (.int .i64 (fn xs i)) ∧ W.cell? ⟨fb, i * 3 + 1, none⟩ = some (.int .i64 (s.last i)) ∧ W.cell? ⟨fb, i * 3 + 2, none⟩ = some (.slice (Aq i) (s.q i).length (cq i))) ∧ fb < W.heap.size) := Lib.hid (fun i hi W hW => ⟨⟨(h.later hW).f0 hi, (h.later hW).f1 hi, (h.later hW).f2 hi⟩, (h.later hW).flows.lt⟩)
  have HZ : Hid (∀ W g, RowI wa W g n (fun k => ((s.q k).length : Int)) → IntsIn W (some ⟨g, 0, none⟩) (leftL n s) ∧ Below wa.heap.size wa W) := Lib.hid (fun W g I => ⟨I.ints hn16, I.below⟩)
  clear h
  have hmk := run_make_row' (P := Try.prog) 22 3 (.int .i64 0) 8 Try.underlying22 info_int8 rfl .i64 .i64 n (by omega) (by omega)
  go_enter Try.func18, Try.ntmps18
  go_upto_region 2 with fail
  have HI := Lib.hid (RowI.start (Below.refl wa.heap.size wa) n)
  have c2 : (wa.alloc (.cells (madeCells #[.int .i64 0] n) 3)).cell? ⟨lb, 1, none⟩ = some (.slice (some ⟨fb, 0, none⟩) n n) := (HI.out.below.cell (p := ⟨lb, 1, none⟩) hl).trans c1
  generalize wa.alloc (.cells (madeCells #[.int .i64 0] n) 3) = w1 at *
  obtain ⟨g, hg⟩ : ∃ g, wa.heap.size = g := ⟨_, rfl⟩
  have HG := Lib.hid hg
  rw [hg] at HI ⊢
  clear hg hmk c1 hl
  go_wp2_with fail
  go_loopg [17] n (fun z c wi => ∃ i : Nat, c = .int .i64 (i : Int) ∧ i + z = n ∧ Hid (RowI wa wi g n (fun j => if j < i then ((s.q j).length : Int) else 0)))
  case atStart => exact ⟨0, rfl, by omega, HI⟩
  case round =>
    clear HI c2
    obtain ⟨i, rfl, hiz, HI⟩ := hrel
    cases gk with
    | zero =>
      obtain rfl : i = n := by omega
      have HR := Lib.hid (HZ.out _ g (HI.out.congr fun j hj => if_pos hj))
      clear HI HZ HF HG
      go_wp2_with fail
      go_ret
      exact ⟨g, rfl, HR.out⟩
    | succ z =>
      have hi : i < n := by omega
      have i1 : (i : Int) < (n : Int) := by omega
      obtain ⟨⟨f0, f1, f2⟩, l2⟩ := HF.out i hi _ HI.out.below
      obtain ⟨q0, q1⟩ := HI.out.seat hi
      have q2 := HI.out.row.lt
      have HM : Hid (∀ ob, RowI wa ((wr.setCell ⟨g, i, none⟩ (.int .i64 ((s.q i).length : Int))).alloc ob) g n (fun j => if j < i + 1 then ((s.q j).length : Int) else 0)) := Lib.hid (fun ob => ((HI.out.put i _).later ((Below.refl _ _).alloc (Nat.le_refl _) ob)).congr fun j _ => by
        by_cases e : j = i
        · subst e
          rw [if_pos rfl, if_pos (by omega)]
        · rw [if_neg e]
          by_cases d : j < i
          · rw [if_pos d, if_pos (by omega)]
          · rw [if_neg d, if_neg (by omega)])
      have hq := h4 i
      rw [if_neg (by omega)] at q0
      clear HI HZ HF HG h4
      generalize (s.q i).length = m at *
      go_wp2_with fail
      go_roundg z
      case measure => omega
      case rel => exact ⟨i + 1, by go_num, by omega, HM.out _⟩
end Go.Proofs.Ytobkepipmmkboaa
