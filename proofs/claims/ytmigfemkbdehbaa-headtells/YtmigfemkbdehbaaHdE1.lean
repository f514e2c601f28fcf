/- Contracts of the reference for package head: EPorts, EWrong. -/
import Derived.Test.YtmigfemkbdehbaaHd4
namespace Go.Proofs.Ytmigfemkbdehbaa
open Go.RowKit Go.Maps

set_option maxHeartbeats 1000000 in
theorem ePorts_any (p : Int) (w : World) :
    Calls Try.prog 21 #[.int .i64 p] w fun e w' => e = .returned (.bool (ported p)) ∧ w = w' := by
  unfold ported
  by_cases c : p = 6
  · subst c
    go_enter Try.func21, Try.ntmps21
    go_wp2
    go_ret
    exact ⟨ret_bool (by decide), rfl⟩
  · have c' : (p == 6) = false := by simpa using c
    go_enter Try.func21, Try.ntmps21
    go_wp2
    go_ret
    exact ⟨ret_bool (by simp [c]; rfl), rfl⟩

set_option maxRecDepth 100000 in
set_option maxHeartbeats 4000000 in
theorem eWrong_any (h : Hd) (w : World) (hs : I64 h.sp) (hd : I64 h.dp) :
    Calls Try.prog 13 #[.agg h.cells.toArray] w fun e w' => e = .returned (.int .i64 h.wrong) ∧ Below w.heap.size w w' := by
  obtain ⟨s0, s1, s2, s3, d0, d1, d2, d3, pr, sp, dp, ln, ma⟩ := h
  unfold Hd.wrong Hd.cells
  dsimp only at hs hd ⊢
  have H1 := Lib.hid (fun w => ePorts_any pr w)
  have HB : Hid (Below w.heap.size w (w.alloc (.cells #[.int .u8 s0, .int .u8 s1, .int .u8 s2, .int .u8 s3, .int .u8 d0, .int .u8 d1, .int .u8 d2, .int .u8 d3, .int .i64 pr, .int .i64 sp, .int .i64 dp, .int .i64 ln, .int .i64 ma] 24))) := Lib.hid ((Below.refl _ _).alloc (Nat.le_refl _) _)
  obtain ⟨p, hp⟩ : ∃ p, p = ported pr := ⟨_, rfl⟩
  rw [← hp] at H1 ⊢
  clear hp
  obtain ⟨R, hR⟩ : ∃ R, R = (if (pr < 0 ∨ 255 < pr) ∨ (ma < 0 ∨ 63 < ma) ∨ (sp < 0 ∨ 65535 < sp) ∨ (dp < 0 ∨ 65535 < dp) then 2
    else if p = false ∧ (sp ≠ 0 ∨ dp ≠ 0) then 1 else if 65535 < ln ∨ ln < 20 ∨ (p = true ∧ ln < 24) then 2 else 0 : Int) := ⟨_, rfl⟩
  rw [← hR]
  have HR := Lib.hid hR
  clear hR
  by_cases c1 : pr < 0
  · go_enter Try.func13, Try.ntmps13
    go_wp2_with fail
    go_ret
    exact ⟨ret_int (by rw [HR.out, if_pos (by omega)]), HB.out⟩
  by_cases c2 : 255 < pr
  · go_enter Try.func13, Try.ntmps13
    go_wp2_with fail
    go_ret
    exact ⟨ret_int (by rw [HR.out, if_pos (by omega)]), HB.out⟩
  by_cases c3 : ma < 0
  · go_enter Try.func13, Try.ntmps13
    go_wp2_with fail
    go_ret
    exact ⟨ret_int (by rw [HR.out, if_pos (by omega)]), HB.out⟩
  by_cases c4 : 63 < ma
  · go_enter Try.func13, Try.ntmps13
    go_wp2_with fail
    go_ret
    exact ⟨ret_int (by rw [HR.out, if_pos (by omega)]), HB.out⟩
  obtain ⟨hs0, hs1⟩ := hs
  obtain ⟨hd0, hd1⟩ := hd
  rcases Int.lt_trichotomy sp dp with hlt | rfl | hlt
  · have hn : ¬ dp < sp := by omega
    by_cases c5 : sp < 0
    · go_enter Try.func13, Try.ntmps13
      go_wp2_with fail
      go_ret
      exact ⟨ret_int (by rw [HR.out, if_pos (by omega)]), HB.out⟩
    by_cases c6 : 65535 < dp
    · go_enter Try.func13, Try.ntmps13
      go_wp2_with fail
      go_ret
      exact ⟨ret_int (by rw [HR.out, if_pos (by omega)]), HB.out⟩
    have HR2 := Lib.hid (HR.out.trans (if_neg (by omega)))
    have w1 : IntKind.i64.wrap (sp + dp) = sp + dp := wraps_i64 _ (by omega) (by omega)
    clear HR
    go_enter Try.func13, Try.ntmps13
    go_wp2_with fail
    refine (H1.out _).mono ?_
    rintro e w1 ⟨rfl, rfl⟩
    cases p with
    | false =>
      by_cases a : 0 < sp + dp
      · go_wp2_with fail
        go_ret
        exact ⟨ret_int (by rw [HR2.out, if_pos (by simp; omega)]), HB.out⟩
      · exfalso; omega
    | true =>
      have HR3 := Lib.hid (HR2.out.trans (if_neg (by simp)))
      clear HR2
      by_cases l : 65535 < ln
      · go_wp2_with fail
        go_ret
        exact ⟨ret_int (by rw [HR3.out, if_pos (by omega)]), HB.out⟩
      by_cases l3 : ln < 24
      · go_wp2_with fail
        go_ret
        exact ⟨ret_int (by rw [HR3.out, if_pos (by simp; omega)]), HB.out⟩
      · go_wp2_with fail
        go_ret
        exact ⟨ret_int (by rw [HR3.out, if_neg (by simp; omega)]), HB.out⟩
  · have hn : ¬ sp < sp := by omega
    by_cases c5 : sp < 0
    · go_enter Try.func13, Try.ntmps13
      go_wp2_with fail
      go_ret
      exact ⟨ret_int (by rw [HR.out, if_pos (by omega)]), HB.out⟩
    by_cases c6 : 65535 < sp
    · go_enter Try.func13, Try.ntmps13
      go_wp2_with fail
      go_ret
      exact ⟨ret_int (by rw [HR.out, if_pos (by omega)]), HB.out⟩
    have HR2 := Lib.hid (HR.out.trans (if_neg (by omega)))
    have w1 : IntKind.i64.wrap (sp + sp) = sp + sp := wraps_i64 _ (by omega) (by omega)
    clear HR
    go_enter Try.func13, Try.ntmps13
    go_wp2_with fail
    refine (H1.out _).mono ?_
    rintro e w1 ⟨rfl, rfl⟩
    cases p with
    | false =>
      by_cases a : 0 < sp + sp
      · go_wp2_with fail
        go_ret
        exact ⟨ret_int (by rw [HR2.out, if_pos (by simp; omega)]), HB.out⟩
      · have HR3 := Lib.hid (HR2.out.trans (if_neg (by simp; omega)))
        clear HR2
        by_cases l : 65535 < ln
        · go_wp2_with fail
          go_ret
          exact ⟨ret_int (by rw [HR3.out, if_pos (by omega)]), HB.out⟩
        by_cases l2 : ln < 20
        · go_wp2_with fail
          go_ret
          exact ⟨ret_int (by rw [HR3.out, if_pos (by omega)]), HB.out⟩
        · go_wp2_with fail
          go_ret
          exact ⟨ret_int (by rw [HR3.out, if_neg (by simp; omega)]), HB.out⟩
    | true =>
      have HR3 := Lib.hid (HR2.out.trans (if_neg (by simp)))
      clear HR2
      by_cases l : 65535 < ln
      · go_wp2_with fail
        go_ret
        exact ⟨ret_int (by rw [HR3.out, if_pos (by omega)]), HB.out⟩
      by_cases l3 : ln < 24
      · go_wp2_with fail
        go_ret
        exact ⟨ret_int (by rw [HR3.out, if_pos (by simp; omega)]), HB.out⟩
      · go_wp2_with fail
        go_ret
        exact ⟨ret_int (by rw [HR3.out, if_neg (by simp; omega)]), HB.out⟩
  · have hn : ¬ sp < dp := by omega
    by_cases c5 : dp < 0
    · go_enter Try.func13, Try.ntmps13
      go_wp2_with fail
      go_ret
      exact ⟨ret_int (by rw [HR.out, if_pos (by omega)]), HB.out⟩
    by_cases c6 : 65535 < sp
    · go_enter Try.func13, Try.ntmps13
      go_wp2_with fail
      go_ret
      exact ⟨ret_int (by rw [HR.out, if_pos (by omega)]), HB.out⟩
    have HR2 := Lib.hid (HR.out.trans (if_neg (by omega)))
    have w1 : IntKind.i64.wrap (sp + dp) = sp + dp := wraps_i64 _ (by omega) (by omega)
    clear HR
    go_enter Try.func13, Try.ntmps13
    go_wp2_with fail
    refine (H1.out _).mono ?_
    rintro e w1 ⟨rfl, rfl⟩
    cases p with
    | false =>
      by_cases a : 0 < sp + dp
      · go_wp2_with fail
        go_ret
        exact ⟨ret_int (by rw [HR2.out, if_pos (by simp; omega)]), HB.out⟩
      · exfalso; omega
    | true =>
      have HR3 := Lib.hid (HR2.out.trans (if_neg (by simp)))
      clear HR2
      by_cases l : 65535 < ln
      · go_wp2_with fail
        go_ret
        exact ⟨ret_int (by rw [HR3.out, if_pos (by omega)]), HB.out⟩
      by_cases l3 : ln < 24
      · go_wp2_with fail
        go_ret
        exact ⟨ret_int (by rw [HR3.out, if_pos (by simp; omega)]), HB.out⟩
      · go_wp2_with fail
        go_ret
        exact ⟨ret_int (by rw [HR3.out, if_neg (by simp; omega)]), HB.out⟩
end Go.Proofs.Ytmigfemkbdehbaa
