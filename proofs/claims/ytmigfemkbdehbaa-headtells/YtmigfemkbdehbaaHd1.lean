/- Contracts of package head: hasPorts, within, Wrong. -/
import Derived.Test.YtmigfemkbdehbaaHdMath
namespace Go.Proofs.Ytmigfemkbdehbaa
open Go.RowKit Go.Maps

set_option maxHeartbeats 1000000 in
theorem hasPorts_any (p : Int) (w : World) :
    Calls Try.prog 17 #[.int .i64 p] w fun e w' => e = .returned (.bool (ported p)) ∧ w = w' := by
  unfold ported
  by_cases c : p = 6
  · subst c
    go_enter Try.func17, Try.ntmps17
    go_wp2
    go_ret
    exact ⟨ret_bool (by decide), rfl⟩
  · have c' : (p == 6) = false := by simpa using c
    go_enter Try.func17, Try.ntmps17
    go_wp2
    go_ret
    exact ⟨ret_bool (by simp [c]; rfl), rfl⟩
set_option maxHeartbeats 1000000 in
theorem within_any (n m : Int) (w : World) :
    Calls Try.prog 26 #[.int .i64 n, .int .i64 m] w fun e w' => e = .returned (.bool (decide (0 ≤ n ∧ n ≤ m))) ∧ w = w' := by
  by_cases c : 0 ≤ n
  · go_enter Try.func26, Try.ntmps26
    go_wp2
    go_ret
    exact ⟨ret_bool (by simp [c]), rfl⟩
  · go_enter Try.func26, Try.ntmps26
    go_wp2
    go_ret
    exact ⟨ret_bool (by simp; omega), rfl⟩

set_option maxRecDepth 100000 in
set_option maxHeartbeats 2000000 in
theorem wrong_any (h : Hd) (w : World) :
    Calls Try.prog 12 #[.agg h.cells.toArray] w fun e w' => e = .returned (.int .i64 h.wrong) ∧ Below w.heap.size w w' := by
  obtain ⟨s0, s1, s2, s3, d0, d1, d2, d3, pr, sp, dp, ln, ma⟩ := h
  unfold Hd.wrong Hd.cells
  dsimp only
  have H1 := Lib.hid (fun w => hasPorts_any pr w)
  have H2 := Lib.hid (fun w => within_any pr 255 w)
  have H3 := Lib.hid (fun w => within_any ma 63 w)
  have H4 := Lib.hid (fun w => within_any sp 65535 w)
  have H5 := Lib.hid (fun w => within_any dp 65535 w)
  have HB : Hid (Below w.heap.size w (w.alloc (.cells #[.int .u8 s0, .int .u8 s1, .int .u8 s2, .int .u8 s3, .int .u8 d0, .int .u8 d1, .int .u8 d2, .int .u8 d3, .int .i64 pr, .int .i64 sp, .int .i64 dp, .int .i64 ln, .int .i64 ma] 24))) := Lib.hid ((Below.refl _ _).alloc (Nat.le_refl _) _)
  obtain ⟨p, hp⟩ : ∃ p, p = ported pr := ⟨_, rfl⟩
  rw [← hp] at H1 ⊢
  clear hp
  obtain ⟨R, hR⟩ : ∃ R, R = (if (pr < 0 ∨ 255 < pr) ∨ (ma < 0 ∨ 63 < ma) ∨ (sp < 0 ∨ 65535 < sp) ∨ (dp < 0 ∨ 65535 < dp) then 2
    else if p = false ∧ (sp ≠ 0 ∨ dp ≠ 0) then 1 else if 65535 < ln ∨ ln < 20 ∨ (p = true ∧ ln < 24) then 2 else 0 : Int) := ⟨_, rfl⟩
  rw [← hR]
  have HR := Lib.hid hR
  clear hR
  go_enter Try.func12, Try.ntmps12
  go_wp2_with fail
  refine (H1.out _).mono ?_
  rintro e w1 ⟨rfl, rfl⟩
  go_wp2_with fail
  refine (H2.out _).mono ?_
  rintro e w1 ⟨rfl, rfl⟩
  by_cases c1 : 0 ≤ pr ∧ pr ≤ 255
  case neg =>
    rw [decide_eq_false c1]
    go_wp2_with fail
    go_ret
    exact ⟨ret_int (by rw [HR.out, if_pos (by omega)]), HB.out⟩
  rw [decide_eq_true c1]
  go_wp2_with fail
  refine (H3.out _).mono ?_
  rintro e w1 ⟨rfl, rfl⟩
  by_cases c2 : 0 ≤ ma ∧ ma ≤ 63
  case neg =>
    rw [decide_eq_false c2]
    go_wp2_with fail
    go_ret
    exact ⟨ret_int (by rw [HR.out, if_pos (by omega)]), HB.out⟩
  rw [decide_eq_true c2]
  go_wp2_with fail
  refine (H4.out _).mono ?_
  rintro e w1 ⟨rfl, rfl⟩
  by_cases c3 : 0 ≤ sp ∧ sp ≤ 65535
  case neg =>
    rw [decide_eq_false c3]
    go_wp2_with fail
    go_ret
    exact ⟨ret_int (by rw [HR.out, if_pos (by omega)]), HB.out⟩
  rw [decide_eq_true c3]
  go_wp2_with fail
  refine (H5.out _).mono ?_
  rintro e w1 ⟨rfl, rfl⟩
  by_cases c4 : 0 ≤ dp ∧ dp ≤ 65535
  case neg =>
    rw [decide_eq_false c4]
    go_wp2_with fail
    go_ret
    exact ⟨ret_int (by rw [HR.out, if_pos (by omega)]), HB.out⟩
  rw [decide_eq_true c4]
  have HN := Lib.hid (show ¬ ((pr < 0 ∨ 255 < pr) ∨ (ma < 0 ∨ 63 < ma) ∨ (sp < 0 ∨ 65535 < sp) ∨ (dp < 0 ∨ 65535 < dp)) by omega)
  have HR2 := Lib.hid (HR.out.trans (if_neg HN.out))
  clear c1 c2 c3 c4 HN HR H1 H2 H3 H4 H5
  cases p with
  | false =>
    by_cases a : sp = 0
    · subst a
      by_cases b : dp = 0
      · subst b
        have HR3 := Lib.hid (HR2.out.trans (if_neg (by simp)))
        clear HR2
        by_cases l : 65535 < ln
        · go_wp2_with fail
          go_ret
          exact ⟨ret_int (by rw [HR3.out, if_pos (by omega)]), HB.out⟩
        by_cases l2 : ln < 20
        · go_wp2_with fail
          go_ret
          exact ⟨ret_int (by rw [HR3.out, if_pos (by omega)]), HB.out⟩
        · go_wp2_with fail
          go_ret
          exact ⟨ret_int (by rw [HR3.out, if_neg (by simp; omega)]), HB.out⟩
      · have b' : (dp != 0) = true := by simpa using b
        go_wp2_with fail
        go_ret
        exact ⟨ret_int (by rw [HR2.out, if_pos (by simp [b])]), HB.out⟩
    · have a' : (sp != 0) = true := by simpa using a
      go_wp2_with fail
      go_ret
      exact ⟨ret_int (by rw [HR2.out, if_pos (by simp [a])]), HB.out⟩
  | true =>
    have HR3 := Lib.hid (HR2.out.trans (if_neg (by simp)))
    clear HR2
    by_cases l : 65535 < ln
    · go_wp2_with fail
      go_ret
      exact ⟨ret_int (by rw [HR3.out, if_pos (by omega)]), HB.out⟩
    by_cases l2 : ln < 20
    · go_wp2_with fail
      go_ret
      exact ⟨ret_int (by rw [HR3.out, if_pos (by omega)]), HB.out⟩
    by_cases l3 : ln < 24
    · go_wp2_with fail
      go_ret
      exact ⟨ret_int (by rw [HR3.out, if_pos (by simp; omega)]), HB.out⟩
    · go_wp2_with fail
      go_ret
      exact ⟨ret_int (by rw [HR3.out, if_neg (by simp; omega)]), HB.out⟩
end Go.Proofs.Ytmigfemkbdehbaa
