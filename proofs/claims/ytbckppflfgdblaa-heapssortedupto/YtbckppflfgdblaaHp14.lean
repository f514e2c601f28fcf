/- slices.Equal over slices of numbers tells whether the two hold the same numbers. -/
import Derived.Test.YtbckppflfgdblaaHp13
import Derived.Deep.QuietTactic
import Derived.BigQuiet
namespace Go.Proofs.Ytbckppflfgdblaa
open Go.RowKit Go.Maps

theorem NumsIs.form {t : TypeId} {B : Nat} {w : World} {v : Value} {xs : List Int} (h : NumsIs t B w v xs) :
    ∃ A cap, v = .slice A xs.length cap ∧ (0 < xs.length → ∃ g, A = some ⟨g, 0, none⟩ ∧ ∀ j, j < xs.length → w.cell? ⟨g, j, none⟩ = some (.int .i64 (xs.getD j 0))) := by
  rcases h.2 with ⟨rfl, h0⟩ | ⟨g, cap, cur, rfl, _, hg, _, _, hs, ht⟩
  · exact ⟨none, 0, by rw [h0], fun h => by omega⟩
  · refine ⟨_, cap, rfl, fun _ => ⟨g, rfl, fun j hj => ?_⟩⟩
    rw [cell_of_row w g j cur t _ hg]
    have e : (cur.toList.take (xs.length * 1))[j]? = (ints xs)[j]? := by rw [ht]
    rw [List.getElem?_take_of_lt (by omega), Array.getElem?_toList] at e
    rw [e]
    simp [ints, List.getElem?_eq_getElem hj]
theorem eq_of_take {xs ys : List Int} {n : Nat} (h : xs.length = n ∧ xs.length = ys.length) (ht : xs.take n = ys.take n) : xs = ys := by
  obtain ⟨h1, h2⟩ := h
  rw [List.take_of_length_le (by omega), List.take_of_length_le (by omega)] at ht
  exact ht
theorem take_next {xs ys : List Int} {n i : Nat} (h : xs.length = n ∧ xs.length = ys.length) (hi : i < n) (ht : xs.take i = ys.take i) (he : xs.getD i 0 = ys.getD i 0) : xs.take (i + 1) = ys.take (i + 1) := by
  obtain ⟨h1, h2⟩ := h
  rw [List.take_add_one, List.take_add_one, ht]
  rw [List.getD_eq_getElem?_getD, List.getD_eq_getElem?_getD] at he
  rw [List.getElem?_eq_getElem (show i < xs.length by omega), List.getElem?_eq_getElem (show i < ys.length by omega)] at he ⊢
  simp only [Option.getD_some] at he
  rw [he]
theorem ne_of_getD {xs ys : List Int} {i : Nat} (h : ¬ xs.getD i 0 = ys.getD i 0) : xs ≠ ys := fun e => h (by rw [e])

set_option maxHeartbeats 1000000 in
theorem equal_errs {B1 B2 : Nat} {w : World} {v1 v2 : Value} {xs ys : List Int} (h1 : NumsIs 28 B1 w v1 xs) (h2 : NumsIs 28 B2 w v2 ys) (hn : xs.length ≤ 5000000000000) :
    Calls Try.prog 10 #[v1, v2] w fun e w' => e = .returned (.bool (decide (xs = ys))) ∧ ∃ k, w' = w.drewN k := by
  obtain ⟨A1, c1, rfl, hA1⟩ := h1.form
  obtain ⟨A2, c2, rfl, hA2⟩ := h2.form
  by_cases hl : xs.length = ys.length
  · obtain ⟨n, hx⟩ : ∃ n, xs.length = n := ⟨_, rfl⟩
    rw [← hl, hx]
    rw [← hl] at hA2
    rw [hx] at hA1 hA2 hn
    have HA1 := Lib.hid hA1
    have HA2 := Lib.hid hA2
    have HX := Lib.hid (And.intro hx hl)
    clear h1 h2 hA1 hA2 hx hl
    go_enter Try.func10, Try.ntmps10
    go_wp2
    go_loopg [13] n (fun k c wr => ∃ i t : Nat, c = .int .i64 (i : Int) ∧ i + k = n ∧ wr = w.drewN t ∧ Hid (xs.take i = ys.take i))
    case atStart => exact ⟨0, 0, rfl, by omega, rfl, Lib.hid rfl⟩
    case round =>
      obtain ⟨i, t, rfl, hik, rfl, HT⟩ := hrel
      cases gk with
      | zero =>
        obtain rfl : i = n := by omega
        go_wp2
        go_ret
        exact ⟨ret_bool (decide_eq_true (eq_of_take HX.out HT.out)).symm, t, rfl⟩
      | succ k =>
        have hi : i < n := by omega
        obtain ⟨g1, rfl, c1⟩ := HA1.out (by omega)
        obtain ⟨g2, rfl, c2⟩ := HA2.out (by omega)
        have d1 := c1 i hi
        have d2 := c2 i hi
        clear c1 c2
        have i1 : (i : Int) < (n : Int) := by omega
        by_cases he : xs.getD i 0 = ys.getD i 0
        · have hnx := take_next HX.out hi HT.out he
          rw [← he] at d2
          generalize xs.getD i 0 = x at *
          clear he
          have HN := Lib.hid hnx
          clear hnx
          go_wp2
          go_quiet (fail)
          go_wp2
          go_roundg k
          case measure => omega
          case rel => exact ⟨i + 1, t + nq, by go_num, by omega, rfl, HN⟩
        · have hne := Lib.hid (ne_of_getD he)
          have hb : (xs.getD i 0 != ys.getD i 0) = true := by simpa using he
          generalize xs.getD i 0 = x at *
          generalize ys.getD i 0 = y at *
          clear he
          go_wp2
          go_quiet (fail)
          go_wp2
          go_ret
          exact ⟨ret_bool (decide_eq_false hne.out).symm, t + nq, World.drewN_drewN _ _ _⟩
  · have hb : ((xs.length : Int) != (ys.length : Int)) = true := by simp; omega
    have hne := Lib.hid (show xs ≠ ys from fun e => hl (by rw [e]))
    clear hl h1 h2 hA1 hA2
    go_enter Try.func10, Try.ntmps10
    go_wp2
    go_ret
    exact ⟨ret_bool (decide_eq_false hne.out).symm, 0, rfl⟩

set_option maxHeartbeats 1000000 in
theorem equal_ints {B1 B2 : Nat} {w : World} {v1 v2 : Value} {xs ys : List Int} (h1 : NumsIs 3 B1 w v1 xs) (h2 : NumsIs 3 B2 w v2 ys) (hn : xs.length ≤ 5000000000000) :
    Calls Try.prog 11 #[v1, v2] w fun e w' => e = .returned (.bool (decide (xs = ys))) ∧ ∃ k, w' = w.drewN k := by
  obtain ⟨A1, c1, rfl, hA1⟩ := h1.form
  obtain ⟨A2, c2, rfl, hA2⟩ := h2.form
  by_cases hl : xs.length = ys.length
  · obtain ⟨n, hx⟩ : ∃ n, xs.length = n := ⟨_, rfl⟩
    rw [← hl, hx]
    rw [← hl] at hA2
    rw [hx] at hA1 hA2 hn
    have HA1 := Lib.hid hA1
    have HA2 := Lib.hid hA2
    have HX := Lib.hid (And.intro hx hl)
    clear h1 h2 hA1 hA2 hx hl
    go_enter Try.func11, Try.ntmps11
    go_wp2
    go_loopg [13] n (fun k c wr => ∃ i t : Nat, c = .int .i64 (i : Int) ∧ i + k = n ∧ wr = w.drewN t ∧ Hid (xs.take i = ys.take i))
    case atStart => exact ⟨0, 0, rfl, by omega, rfl, Lib.hid rfl⟩
    case round =>
      obtain ⟨i, t, rfl, hik, rfl, HT⟩ := hrel
      cases gk with
      | zero =>
        obtain rfl : i = n := by omega
        go_wp2
        go_ret
        exact ⟨ret_bool (decide_eq_true (eq_of_take HX.out HT.out)).symm, t, rfl⟩
      | succ k =>
        have hi : i < n := by omega
        obtain ⟨g1, rfl, c1⟩ := HA1.out (by omega)
        obtain ⟨g2, rfl, c2⟩ := HA2.out (by omega)
        have d1 := c1 i hi
        have d2 := c2 i hi
        clear c1 c2
        have i1 : (i : Int) < (n : Int) := by omega
        by_cases he : xs.getD i 0 = ys.getD i 0
        · have hnx := take_next HX.out hi HT.out he
          rw [← he] at d2
          generalize xs.getD i 0 = x at *
          clear he
          have HN := Lib.hid hnx
          clear hnx
          go_wp2
          go_quiet (fail)
          go_wp2
          go_roundg k
          case measure => omega
          case rel => exact ⟨i + 1, t + nq, by go_num, by omega, rfl, HN⟩
        · have hne := Lib.hid (ne_of_getD he)
          have hb : (xs.getD i 0 != ys.getD i 0) = true := by simpa using he
          generalize xs.getD i 0 = x at *
          generalize ys.getD i 0 = y at *
          clear he
          go_wp2
          go_quiet (fail)
          go_wp2
          go_ret
          exact ⟨ret_bool (decide_eq_false hne.out).symm, t + nq, World.drewN_drewN _ _ _⟩
  · have hb : ((xs.length : Int) != (ys.length : Int)) = true := by simp; omega
    have hne := Lib.hid (show xs ≠ ys from fun e => hl (by rw [e]))
    clear hl h1 h2 hA1 hA2
    go_enter Try.func11, Try.ntmps11
    go_wp2
    go_ret
    exact ⟨ret_bool (decide_eq_false hne.out).symm, 0, rfl⟩

end Go.Proofs.Ytbckppflfgdblaa
