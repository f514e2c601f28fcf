/- ScfqFair: two that both wait are served alike, by their weights. -/
import Derived.Test.YtobkepipmmkboaaFkK
import Derived.Test.YtobkepipmmkboaaScFM
import Derived.Test.YtobkepipmmkboaaScFair0
import Derived.Test.YtobkepipmmkboaaSc10
namespace Go.Proofs.Ytobkepipmmkboaa
open Go.RowKit Go.Maps

set_option maxRecDepth 100000 in
set_option maxHeartbeats 16000000 in
/-- Where there is nothing to compare. -/
theorem fair_early {w : World} {P Q : Option Addr} {xs : List Int} {os : List (Int × Int × Int)} (hx : IntsIn w P xs) (hy : ThreeIn w Q os) (cx cy : Nat) (a b : Int) (h : playErr xs os ≠ 0 ∨ a < 0 ∨ b < 0 ∨ (xs.length : Int) ≤ a ∨ (xs.length : Int) ≤ b ∨ a = b) :
    Calls Try.prog 5 #[.slice P xs.length cx, .slice Q os.length cy, .int .i64 a, .int .i64 b] w fun e w' => e = .returned (.bool true) ∧ Below w.heap.size w w' := by
  have HA := Lib.hid (alive15_any w)
  have HPY := Lib.hid (fun W (hW : Below w.heap.size w W) => play_any (hx.below hW) (hy.below hW) cx cy)
  unfold Out at HPY
  rcases play_way xs os with ⟨h2, e1, e2, e3⟩ | ⟨h0, hR, hm, e1, e2, e3⟩
  · rw [h2, e1, e2, e3] at HPY
    simp only [List.length_nil] at HPY
    clear hx hy h h2 e1 e2 e3
    generalize xs.length = n at *
    generalize os.length = m at *
    go_enter Try.func5, Try.ntmps5
    go_wp2_with fail
    refine HA.out.mono ?_
    rintro e w1 ⟨rfl, hb⟩
    have H1 := Lib.hid hb
    clear hb HA
    go_wp2_with fail
    refine (HPY.out _ H1.out).mono ?_
    rintro e w2 ⟨A, cA, B, cB, D, cD, rfl, -, -, -, hb⟩
    have H2 := Lib.hid (H1.out.trans (hb.mono H1.out.size))
    clear hb HPY H1
    go_wp2_with fail
    go_ret
    exact ⟨rfl, H2.out⟩
  · rw [h0, e1, e2, e3, scRun_errs_length] at HPY
    have h : a < 0 ∨ b < 0 ∨ (xs.length : Int) ≤ a ∨ (xs.length : Int) ≤ b ∨ a = b := by
      rcases h with h | h
      · exact absurd h0 h
      · exact h
    clear hx hy h0 hR hm e1 e2 e3
    generalize xs.length = n at *
    generalize os.length = m at *
    generalize (scRun (uW xs) n os).sent.length = sl at *
    generalize (leftL n (scRun (uW xs) n os).st).length = ll at *
    have em : ((m : Int) == (m : Int)) = true := by simp
    by_cases c0 : a < 0
    · have d0 : decide (a < 0) = true := decide_eq_true c0
      clear h c0
      go_enter Try.func5, Try.ntmps5
      go_wp2_with fail
      refine HA.out.mono ?_
      rintro e w1 ⟨rfl, hb⟩
      have H1 := Lib.hid hb
      clear hb HA
      go_wp2_with fail
      refine (HPY.out _ H1.out).mono ?_
      rintro e w2 ⟨A, cA, B, cB, D, cD, rfl, -, -, -, hb⟩
      have H2 := Lib.hid (H1.out.trans (hb.mono H1.out.size))
      clear hb HPY H1
      go_wp2_with fail
      go_ret
      exact ⟨rfl, H2.out⟩
    have d0 : decide (a < 0) = false := decide_eq_false c0
    by_cases c1 : b < 0
    · have d1 : decide (b < 0) = true := decide_eq_true c1
      clear h c0 c1
      go_enter Try.func5, Try.ntmps5
      go_wp2_with fail
      refine HA.out.mono ?_
      rintro e w1 ⟨rfl, hb⟩
      have H1 := Lib.hid hb
      clear hb HA
      go_wp2_with fail
      refine (HPY.out _ H1.out).mono ?_
      rintro e w2 ⟨A, cA, B, cB, D, cD, rfl, -, -, -, hb⟩
      have H2 := Lib.hid (H1.out.trans (hb.mono H1.out.size))
      clear hb HPY H1
      go_wp2_with fail
      go_ret
      exact ⟨rfl, H2.out⟩
    have d1 : decide (b < 0) = false := decide_eq_false c1
    by_cases c2 : (n : Int) ≤ a
    · have d2 : decide ((n : Int) ≤ a) = true := decide_eq_true c2
      clear h c0 c1 c2
      go_enter Try.func5, Try.ntmps5
      go_wp2_with fail
      refine HA.out.mono ?_
      rintro e w1 ⟨rfl, hb⟩
      have H1 := Lib.hid hb
      clear hb HA
      go_wp2_with fail
      refine (HPY.out _ H1.out).mono ?_
      rintro e w2 ⟨A, cA, B, cB, D, cD, rfl, -, -, -, hb⟩
      have H2 := Lib.hid (H1.out.trans (hb.mono H1.out.size))
      clear hb HPY H1
      go_wp2_with fail
      go_ret
      exact ⟨rfl, H2.out⟩
    have d2 : decide ((n : Int) ≤ a) = false := decide_eq_false c2
    by_cases c3 : (n : Int) ≤ b
    · have d3 : decide ((n : Int) ≤ b) = true := decide_eq_true c3
      clear h c0 c1 c2 c3
      go_enter Try.func5, Try.ntmps5
      go_wp2_with fail
      refine HA.out.mono ?_
      rintro e w1 ⟨rfl, hb⟩
      have H1 := Lib.hid hb
      clear hb HA
      go_wp2_with fail
      refine (HPY.out _ H1.out).mono ?_
      rintro e w2 ⟨A, cA, B, cB, D, cD, rfl, -, -, -, hb⟩
      have H2 := Lib.hid (H1.out.trans (hb.mono H1.out.size))
      clear hb HPY H1
      go_wp2_with fail
      go_ret
      exact ⟨rfl, H2.out⟩
    have d3 : decide ((n : Int) ≤ b) = false := decide_eq_false c3
    have hab : a = b := by omega
    subst hab
    have d4 : (a == a) = true := by simp
    clear h c0 c1 c2 c3
    go_enter Try.func5, Try.ntmps5
    go_wp2_with fail
    refine HA.out.mono ?_
    rintro e w1 ⟨rfl, hb⟩
    have H1 := Lib.hid hb
    clear hb HA
    go_wp2_with fail
    refine (HPY.out _ H1.out).mono ?_
    rintro e w2 ⟨A, cA, B, cB, D, cD, rfl, -, -, -, hb⟩
    have H2 := Lib.hid (H1.out.trans (hb.mono H1.out.size))
    clear hb HPY H1
    go_wp2_with fail
    go_ret
    exact ⟨rfl, H2.out⟩
end Go.Proofs.Ytobkepipmmkboaa
