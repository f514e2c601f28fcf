/- Slices of errors: slices.Equal. -/
import Derived.Test.YtobkepipmmkboaaIn3a
namespace Go.Proofs.Ytobkepipmmkboaa
open Go.RowKit Go.Maps

set_option maxRecDepth 100000 in
set_option maxHeartbeats 4000000 in
theorem equal_errs {w : World} {A1 A2 : Option Addr} {xs ys : List Int} (h1 : IntsIn w A1 xs) (h2 : IntsIn w A2 ys) (c1 c2 : Nat) :
    Calls Try.prog 11 #[.slice A1 xs.length c1, .slice A2 ys.length c2] w fun e w' => e = .returned (.bool (decide (xs = ys))) ∧ ∃ k, w' = w.drewN k := by
  have hl1 := h1.len
  have hl2 := h2.len
  by_cases hl : xs.length = ys.length
  · obtain ⟨n, hn⟩ : ∃ n, xs.length = n := ⟨_, rfl⟩
    have hn2 : ys.length = n := by omega
    have HN := Lib.hid (And.intro hn hn2)
    have H1 := Lib.hid h1
    have H2 := Lib.hid h2
    rw [hn] at hl1 ⊢
    rw [hn2]
    clear h1 h2 hl hl2 hn hn2
    go_enter Try.func11, Try.ntmps11
    go_wp2_with fail
    go_loopg [13] n (fun k c wr => ∃ i t : Nat, c = .int .i64 (i : Int) ∧ i + k = n ∧ wr = w.drewN t ∧ Hid (xs.take i = ys.take i))
    case atStart => exact ⟨0, 0, rfl, by omega, rfl, Lib.hid rfl⟩
    case round =>
      obtain ⟨i, t, rfl, hik, rfl, HT⟩ := hrel
      cases gk with
      | zero =>
        obtain rfl : i = n := by omega
        go_wp2_with fail
        go_ret
        exact ⟨ret_bool (decide_eq_true (eq_of_takeI HN.out.1 HN.out.2 HT.out)).symm, t, rfl⟩
      | succ k =>
        have hi : i < n := by omega
        have i1 : (i : Int) < (n : Int) := by omega
        obtain ⟨b1, o1, x, rfl, hx, hat1, _⟩ := H1.out.next (i := i) (by have := HN.out.1; omega)
        obtain ⟨b2, o2, y, rfl, hy, hat2, _⟩ := H2.out.next (i := i) (by have := HN.out.2; omega)
        by_cases he : x = y
        · subst he
          have HM := Lib.hid (take_nextI HT.out hx hy)
          clear hx hy HT
          go_wp2_with fail
          go_quiet (fail)
          go_wp2_with fail
          go_roundg k
          case measure => omega
          case rel => exact ⟨i + 1, t + nq, by go_num, by omega, rfl, HM⟩
        · have HM := Lib.hid (ne_of_atI hx hy he)
          have hb : (x != y) = true := by simpa using he
          clear hx hy HT he
          go_wp2_with fail
          go_quiet (fail)
          go_wp2_with fail
          go_ret
          exact ⟨ret_bool (decide_eq_false HM.out).symm, t + nq, World.drewN_drewN _ _ _⟩
  · have hb : ((xs.length : Int) != (ys.length : Int)) = true := by simp; omega
    have HM := Lib.hid (show xs ≠ ys from fun e => hl (by rw [e]))
    clear hl h1 h2 hl1 hl2
    go_enter Try.func11, Try.ntmps11
    go_wp2_with fail
    go_ret
    exact ⟨ret_bool (decide_eq_false HM.out).symm, 0, rfl⟩
end Go.Proofs.Ytobkepipmmkboaa
