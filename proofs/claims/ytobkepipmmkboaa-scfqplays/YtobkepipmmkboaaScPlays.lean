/- ScfqPlays: Wrong and Play answer as the reference does. -/
import Derived.Test.YtobkepipmmkboaaSc10
import Derived.Test.YtobkepipmmkboaaScW
import Derived.Test.YtobkepipmmkboaaScP1
import Derived.Test.YtobkepipmmkboaaEn2
namespace Go.Proofs.Ytobkepipmmkboaa
open Go.RowKit Go.Maps

theorem calls_yes {f args} {w : World} {b : Bool} (h : Calls Try.prog f args w fun e w' => e = .returned (.bool b) ∧ ∃ k, w' = w.drewN k) (hb : b = true) : Calls Try.prog f args w fun e w' => e = .returned (.bool true) ∧ ∃ k, w' = w.drewN k := by
  subst hb
  exact h
set_option maxRecDepth 100000 in
set_option maxHeartbeats 16000000 in
theorem scfqPlays_law {w : World} {P Q : Option Addr} {xs : List Int} {os : List (Int × Int × Int)} (hx : IntsIn w P xs) (hy : ThreeIn w Q os) (cx cy : Nat) :
    Calls Try.prog 3 #[.slice P xs.length cx, .slice Q os.length cy] w fun e w' => e = .returned (.bool true) ∧ Below w.heap.size w w' := by
  have HOW := Lib.hid (fun W (hW : Below w.heap.size w W) => oWrong_any (hx.below hW) cx)
  have HW := Lib.hid (fun W (hW : Below w.heap.size w W) => wrong_any (hx.below hW) cx)
  have HPL := Lib.hid (play_any hx hy cx cy)
  rcases play_way xs os with ⟨h, e1, e2, e3⟩ | ⟨h, hR, hm, e1, e2, e3⟩
  · rw [h, e1, e2, e3] at HPL
    unfold Out at HPL
    simp only [List.length_nil] at HPL
    unfold playErr at h
    by_cases c : wrongL xs ≠ 0
    · rw [if_pos c] at h
      rw [h] at HOW HW
      clear hx hy h e1 e2 e3 c
      generalize xs.length = n at *
      generalize os.length = m at *
      go_enter Try.func3, Try.ntmps3
      go_wp2_with fail
      refine HPL.out.mono ?_
      rintro e w1 ⟨A, cA, B, cB, D, cD, rfl, -, -, -, hb⟩
      have H1 := Lib.hid hb
      clear hb HPL
      go_wp2_with fail
      refine (HOW.out _ H1.out).mono ?_
      rintro e w2 ⟨rfl, rfl⟩
      go_wp2_with fail
      refine (HW.out _ H1.out).mono ?_
      rintro e w3 ⟨rfl, rfl⟩
      go_wp2_with fail
      go_ret
      exact ⟨rfl, H1.out⟩
    · rw [if_neg c] at h
      have hd : decide (400 < (os.length : Int)) = true := by
        refine decide_eq_true ?_
        by_cases d : os.length ≤ 400
        · rw [if_pos d] at h
          exact absurd h (by decide)
        · omega
      rw [show wrongL xs = 0 by omega] at HOW HW
      clear hx hy h e1 e2 e3 c
      generalize xs.length = n at *
      generalize os.length = m at *
      go_enter Try.func3, Try.ntmps3
      go_wp2_with fail
      refine HPL.out.mono ?_
      rintro e w1 ⟨A, cA, B, cB, D, cD, rfl, -, -, -, hb⟩
      have H1 := Lib.hid hb
      clear hb HPL
      go_wp2_with fail
      refine (HOW.out _ H1.out).mono ?_
      rintro e w2 ⟨rfl, rfl⟩
      go_wp2_with fail
      refine (HW.out _ H1.out).mono ?_
      rintro e w3 ⟨rfl, rfl⟩
      go_wp2_with fail
      go_ret
      exact ⟨rfl, H1.out⟩
  · rw [h, e1, e2, e3] at HPL
    rw [hR.wrong] at HOW HW
    have HOP := Lib.hid (fun W (hW : Below w.heap.size w W) => oPlay_any (hx.below hW) (hy.below hW) hR hm cx cy)
    have hl := (scRun_at hR hm os.length).2.2.1
    rw [List.take_length] at hl
    have hd : decide (400 < (os.length : Int)) = false := decide_eq_false (by omega)
    unfold Out at HPL
    unfold OutR at HOP
    clear hx hy h hR hm e1 e2 e3
    generalize (scRun (uW xs) xs.length os).errs = E at *
    generalize (scRun (uW xs) xs.length os).sent = S at *
    generalize leftL xs.length (scRun (uW xs) xs.length os).st = L at *
    generalize xs.length = n at *
    generalize os.length = m at *
    have HS4 := Lib.hid hl
    clear hl
    go_enter Try.func3, Try.ntmps3
    go_wp2_with fail
    refine HPL.out.mono ?_
    rintro e w1 ⟨A, cA, B, cB, D, cD, rfl, hE, hS, hL, hb⟩
    have H1 := Lib.hid (And.intro hE (And.intro hS (And.intro hL hb)))
    clear hE hS hL hb HPL
    go_wp2_with fail
    refine (HOW.out _ H1.out.2.2.2).mono ?_
    rintro e w2 ⟨rfl, rfl⟩
    go_wp2_with fail
    refine (HW.out _ H1.out.2.2.2).mono ?_
    rintro e w3 ⟨rfl, rfl⟩
    go_wp2_with fail
    refine (HOP.out _ H1.out.2.2.2).mono ?_
    rintro e w4 ⟨A2, cA2, B2, cB2, D2, cD2, rfl, hE, hS, hL, hb⟩
    have HQ1 := Lib.hid (calls_yes (equal_errs (H1.out.1.below hb) hE cA cA2) (decide_eq_true rfl))
    have HQ2 := Lib.hid (fun k => calls_yes (equal_sents ((H1.out.2.1.below hb).below (below_drewN (Below.refl _ _) k)) (hS.below (below_drewN (Below.refl _ _) k)) cB cB2 (by have := HS4.out; omega)) (decide_eq_true rfl))
    have HQ3 := Lib.hid (fun k => calls_yes (equal_any ((H1.out.2.2.1.below hb).below (below_drewN (Below.refl _ _) k)) (hL.below (below_drewN (Below.refl _ _) k)) cD cD2) (decide_eq_true rfl))
    have HB := Lib.hid (H1.out.2.2.2.trans (hb.mono H1.out.2.2.2.size))
    clear hE hS hL hb HOP HOW HW H1 HS4
    go_wp2_with fail
    refine HQ1.out.mono ?_
    rintro e w5 ⟨rfl, k, rfl⟩
    clear HQ1
    go_wp2_with fail
    refine (HQ2.out k).mono ?_
    rintro e w6 ⟨rfl, k2, rfl⟩
    rw [World.drewN_drewN]
    clear HQ2
    go_wp2_with fail
    refine (HQ3.out _).mono ?_
    rintro e w7 ⟨rfl, k3, rfl⟩
    rw [World.drewN_drewN]
    have HZ := Lib.hid (below_drewN HB.out (k + k2 + k3))
    clear HQ3 HB
    go_wp2_with fail
    go_ret
    exact ⟨rfl, HZ.out⟩
theorem scfqPlays_walk {w : World} {P Q : Option Addr} {xs : List Int} {os : List (Int × Int × Int)} {n m : Nat} (hx : IntsIn w P xs) (h1 : xs.length = n) (hy : ThreeIn w Q os) (h2 : os.length = m) (cx cy : Nat) :
    Calls Try.prog 3 #[.slice P n cx, .slice Q m cy] w fun e w' => e = .returned (.bool true) ∧ Below w.heap.size w w' := by
  subst h1 h2
  exact scfqPlays_law hx hy cx cy
end Go.Proofs.Ytobkepipmmkboaa
