/- DrrRound: Wrong and Round of package drr answer what the document says. -/
import Derived.Test.YtgphbplmkegdeaaDl1
import Derived.Test.YtgphbplmkegdeaaNrW
import Derived.Test.YtgphbplmkegdeaaNr2
namespace Go.Proofs.Ytgphbplmkegdeaa
open Go.RowKit Go.Maps

set_option maxHeartbeats 1000000 in
theorem closure14_eq (n : Int) (w : World) : Calls Try.prog 14 #[.int .i64 n] w fun e w' => e = .returned (.bool (wc n)) ∧ w = w' := by
  unfold wc
  by_cases c : n < 0
  · go_enter Try.func14, Try.ntmps14
    go_wp2
    go_ret
    exact ⟨ret_bool (by simp [c]), rfl⟩
  · go_enter Try.func14, Try.ntmps14
    go_wp2
    go_ret
    exact ⟨ret_bool (by simp; omega), rfl⟩
set_option maxRecDepth 100000 in
set_option maxHeartbeats 4000000 in
theorem index_lc {w : World} {xs : List Int} {A : Option Addr} (hP : IntsIn w A xs) (cap : Nat) :
    Calls Try.prog 30 #[.slice A xs.length cap, .func (.func 14) #[] #[]] w fun e w' => ∃ r : Int, e = .returned (.int .i64 r) ∧ IndexIs wc xs r ∧ w = w' := by
  have hlen := hP.len
  obtain ⟨n, hn⟩ : ∃ n, xs.length = n := ⟨_, rfl⟩
  have HN := Lib.hid hn
  have HP := Lib.hid hP
  have HF := Lib.hid (fun n w => closure14_eq n w)
  rw [hn] at hlen ⊢
  clear hn hP
  go_enter Try.func30, Try.ntmps30
  go_wp2_with fail
  go_loopg [8] n (fun k c wr => ∃ i : Nat, c = .int .i64 (i : Int) ∧ i + k = n ∧ wr = w ∧ Hid ((xs.take i).any wc = false))
  case atStart => exact ⟨0, rfl, by omega, rfl, Lib.hid rfl⟩
  case round =>
    obtain ⟨i, rfl, hik, rfl, HI⟩ := hrel
    cases gk with
    | zero =>
      obtain rfl : i = n := by omega
      have HE : Hid (xs.any wc = false) := Lib.hid (by
        have := HI.out
        rwa [List.take_of_length_le (by have := HN.out; omega)] at this)
      clear HI HP HF HN
      go_wp2_with fail
      go_ret
      exact ⟨-1, rfl, .inl ⟨rfl, HE.out⟩, rfl⟩
    | succ k =>
      have hi : i < n := by omega
      have i1 : (i : Int) < (n : Int) := by omega
      obtain ⟨b, off, x, rfl, hx, hat, hbl⟩ := HP.out.next (i := i) (by have := HN.out; omega)
      have HA : Hid ((xs.take (i + 1)).any wc = wc x) := Lib.hid (by
        rw [take_snocI hx, List.any_append, HI.out]
        simp)
      have HY : Hid (wc x = true → IndexIs wc xs (i : Int)) := Lib.hid (fun h => .inr ⟨i, rfl, by have := HN.out; omega, HI.out, x, hx, h⟩)
      have HD := Lib.hid (HF.out x wr)
      clear hx hbl HI HP HF
      generalize wc x = J at *
      go_wp2_with fail
      refine HD.out.mono ?_
      rintro e w2 ⟨rfl, rfl⟩
      clear HD
      cases J with
      | true =>
        have HZ := Lib.hid (HY.out rfl)
        go_wp2_with fail
        go_ret
        exact ⟨(i : Int), rfl, HZ.out, rfl⟩
      | false =>
        go_wp2_with fail
        go_roundg k
        case measure => omega
        case rel => exact ⟨i + 1, by go_num, by omega, rfl, HA⟩
set_option maxHeartbeats 1000000 in
theorem contains_lc {w : World} {xs : List Int} {A : Option Addr} (hP : IntsIn w A xs) (cap : Nat) :
    Calls Try.prog 13 #[.slice A xs.length cap, .func (.func 14) #[] #[]] w fun e w' => e = .returned (.bool (xs.any wc)) ∧ w = w' := by
  have H := Lib.hid (index_lc hP cap)
  clear hP
  go_enter Try.func13, Try.ntmps13
  go_wp2_with fail
  refine H.out.mono ?_
  rintro e w1 ⟨r, rfl, hr, rfl⟩
  have HR := Lib.hid hr.any
  clear hr H
  go_wp2_with fail
  go_ret
  exact ⟨ret_bool HR.out, rfl⟩

set_option maxRecDepth 100000 in
set_option maxHeartbeats 16000000 in
theorem drrRound_law {w : World} {P Q M : Option Addr} {xs : List Int} {fs : List (List Int)} {ms : List Int} (hx : IntsIn w P xs) (hy : ListsIn w Q fs) (hm : IntsIn w M ms) (cx cy cm : Nat) :
    Calls Try.prog 3 #[.slice P xs.length cx, .slice Q fs.length cy, .slice M ms.length cm] w fun e w' => e = .returned (.bool true) ∧ Below w.heap.size w w' := by
  have HE := Lib.hid (round_any2 hx hy hm cx cy cm)
  unfold Out at HE
  have HN := Lib.hid (fun W (hW : Below w.heap.size w W) => nwrong_any (hx.below hW) (hy.below hW) cx cy)
  have HW := Lib.hid (fun W (hW : Below w.heap.size w W) => wrong_any (hx.below hW) (hy.below hW) cx cy)
  have HB := Lib.hid (fun W (hW : Below w.heap.size w W) => contains_lc (hm.below hW) cm)
  by_cases c : wrongL xs fs ≠ 0
  · have hb := wrongL_bne c
    have he : roundOf xs fs ms = ([], [], [], wrongL xs fs) := by
      have h1 : roundErr xs fs ms = wrongL xs fs := by unfold roundErr; rw [if_pos c]
      unfold roundOf
      rw [if_neg (by rw [h1]; exact c), h1]
    have hb2 : (wrongL xs fs == 0) = false := by simpa using c
    rw [he] at HE
    simp only [List.length_nil] at HE
    generalize wrongL xs fs = E at *
    clear hx hy hm c he HB
    generalize xs.length = n at *
    generalize fs.length = m at *
    generalize ms.length = q at *
    go_enter Try.func3, Try.ntmps3
    go_wp2_with fail
    refine HE.out.mono ?_
    rintro e w1 ⟨A, cA, B, cB, D, cD, rfl, -, -, -, hb, -⟩
    have H1 := Lib.hid hb
    clear hb HE
    go_wp2_with fail
    refine (HN.out _ H1.out).mono ?_
    rintro e w2 ⟨rfl, rfl⟩
    clear HN
    go_wp2_with fail
    refine (HW.out _ H1.out).mono ?_
    rintro e w2 ⟨rfl, rfl⟩
    clear HW
    go_wp2_with fail
    go_ret
    exact ⟨ret_bool (by simp), H1.out⟩
  · have c : wrongL xs fs = 0 := by omega
    rw [c] at HN HW
    rcases round_way xs fs ms with ⟨h12, he⟩ | ⟨_, hR, hC, he⟩
    · rw [he] at HE
      simp only [List.length_nil] at HE
      by_cases c2 : ms.length ≠ fs.length
      · have h1 : roundErr xs fs ms = 1 := by unfold roundErr; rw [if_neg (by omega), if_pos c2]
        have hl : xs.length = fs.length := by
          rcases wrongL_way xs fs with h | h | h
          · omega
          · omega
          · exact h.2.len.symm
        rw [h1] at HE
        have hb : ((ms.length : Int) != (xs.length : Int)) = true := by simp; omega
        clear hx hy hm c h12 he c2 h1 hl HB
        generalize xs.length = n at *
        generalize fs.length = m at *
        generalize ms.length = q at *
        go_enter Try.func3, Try.ntmps3
        go_wp2_with fail
        refine HE.out.mono ?_
        rintro e w1 ⟨A, cA, B, cB, D, cD, rfl, -, -, -, hb, -⟩
        have H1 := Lib.hid hb
        clear hb HE
        go_wp2_with fail
        refine (HN.out _ H1.out).mono ?_
        rintro e w2 ⟨rfl, rfl⟩
        clear HN
        go_wp2_with fail
        refine (HW.out _ H1.out).mono ?_
        rintro e w2 ⟨rfl, rfl⟩
        clear HW
        go_wp2_with fail
        go_ret
        exact ⟨ret_bool (by simp), H1.out⟩
      · have hl : xs.length = fs.length := by
          rcases wrongL_way xs fs with h | h | h
          · omega
          · omega
          · exact h.2.len.symm
        have hb : ((ms.length : Int) != (xs.length : Int)) = false := by simp; omega
        have h2 : roundErr xs fs ms = 2 ∧ ms.any wc = true := by
          unfold roundErr at h12 ⊢
          rw [if_neg (by omega), if_neg c2] at h12 ⊢
          cases h : ms.any wc with
          | true => exact ⟨by rw [if_pos rfl], rfl⟩
          | false =>
            rw [h, if_neg (by decide)] at h12
            omega
        rw [h2.1] at HE
        rw [h2.2] at HB
        clear hx hy hm c h12 he c2 h2 hl
        generalize xs.length = n at *
        generalize fs.length = m at *
        generalize ms.length = q at *
        go_enter Try.func3, Try.ntmps3
        go_wp2_with fail
        refine HE.out.mono ?_
        rintro e w1 ⟨A, cA, B, cB, D, cD, rfl, -, -, -, hb, -⟩
        have H1 := Lib.hid hb
        clear hb HE
        go_wp2_with fail
        refine (HN.out _ H1.out).mono ?_
        rintro e w2 ⟨rfl, rfl⟩
        clear HN
        go_wp2_with fail
        refine (HW.out _ H1.out).mono ?_
        rintro e w2 ⟨rfl, rfl⟩
        clear HW
        go_wp2_with fail
        refine (HB.out _ H1.out).mono ?_
        rintro e w2 ⟨rfl, rfl⟩
        clear HB
        go_wp2_with fail
        go_ret
        exact ⟨ret_bool (by simp), H1.out⟩
    · rw [he] at HE
      rw [show ms.any wc = false from by
        rw [List.any_eq_false]
        exact fun m h => by simpa using wc_false.2 (hC.all m h)] at HB
      have HR := Lib.hid (fun W (hW : Below w.heap.size w W) => nrounds_any (hx.below hW) (hy.below hW) (hm.below hW) hR hC cx cy cm (R := 1) (by decide))
      unfold NOut at HR
      have HSL := Lib.hid (outS_len (ms := ms) hR 1)
      have HLL := Lib.hid (And.intro (outL_length xs fs ms 1) (outC_length xs fs ms 1))
      simp only [outL_length, outC_length] at HE HR
      rw [hR.len] at HE HN HW ⊢
      rw [hC.len] at HE HB ⊢
      generalize outS xs fs ms 1 = S at *
      generalize outL xs fs ms 1 = L at *
      generalize outC xs fs ms 1 = C at *
      generalize xs.length = n at *
      have hb : ((n : Int) != (n : Int)) = false := by simp
      obtain ⟨sl, hsl⟩ : ∃ sl, S.length = sl := ⟨_, rfl⟩
      have HSN := Lib.hid hsl
      rw [hsl] at HE HR HSL
      clear hx hy hm c hR hC he hsl
      go_enter Try.func3, Try.ntmps3
      go_wp2_with fail
      refine HE.out.mono ?_
      rintro e w1 ⟨A, cA, B, cB, D, cD, rfl, hS, hL, hC, hb, -⟩
      have H1 := Lib.hid (And.intro hb (And.intro hS (And.intro hL hC)))
      clear hb hS hL hC HE
      go_wp2_with fail
      refine (HN.out _ H1.out.1).mono ?_
      rintro e w2 ⟨rfl, rfl⟩
      clear HN
      go_wp2_with fail
      refine (HW.out _ H1.out.1).mono ?_
      rintro e w2 ⟨rfl, rfl⟩
      clear HW
      go_wp2_with fail
      refine (HB.out _ H1.out.1).mono ?_
      rintro e w2 ⟨rfl, rfl⟩
      clear HB hb
      go_wp2_with fail
      refine (HR.out _ H1.out.1).mono ?_
      rintro e w3 ⟨A2, cA2, B2, cB2, D2, cD2, rfl, hS, hL, hC, hb⟩
      have H3 := Lib.hid (And.intro (H1.out.1.trans (hb.mono H1.out.1.size)) (And.intro (H1.out.2.1.below hb) (And.intro (H1.out.2.2.1.below hb) (And.intro (H1.out.2.2.2.below hb) (And.intro hS (And.intro hL hC))))))
      clear hb hS hL hC HR H1
      have HQ := Lib.hid (equal_sents H3.out.2.1 H3.out.2.2.2.2.1 cA cA2 (by rw [HSN.out]; exact Nat.le_trans HSL.out (by decide)))
      rw [HSN.out, decide_eq_true rfl] at HQ
      go_wp2_with fail
      refine HQ.out.mono ?_
      rintro e w4 ⟨rfl, k4, rfl⟩
      have HQ2 := Lib.hid (same_lists (H3.out.2.2.1.below (below_drewN (Below.refl _ _) k4)) (H3.out.2.2.2.2.2.1.below (below_drewN (Below.refl _ _) k4)) cB cB2)
      rw [HLL.out.1] at HQ2
      clear HQ
      go_wp2_with fail
      refine HQ2.out.mono ?_
      rintro e w5 ⟨rfl, k5, rfl⟩
      have HQ3 := Lib.hid (equal_any (H3.out.2.2.2.1.below (below_drewN (Below.refl _ _) (k4 + k5))) (H3.out.2.2.2.2.2.2.below (below_drewN (Below.refl _ _) (k4 + k5))) cD cD2)
      rw [HLL.out.2, decide_eq_true rfl] at HQ3
      clear HQ2
      go_wp2_with fail
      refine HQ3.out.mono ?_
      rintro e w6 ⟨rfl, k6, rfl⟩
      go_wp2_with fail
      go_ret
      exact ⟨rfl, below_drewN H3.out.1 _⟩
theorem drrRound_walk {w : World} {P Q M : Option Addr} {xs : List Int} {fs : List (List Int)} {ms : List Int} {n m q : Nat} (hx : IntsIn w P xs) (h1 : xs.length = n) (hy : ListsIn w Q fs) (h2 : fs.length = m) (hm : IntsIn w M ms) (h3 : ms.length = q) (cx cy cm : Nat) :
    Calls Try.prog 3 #[.slice P n cx, .slice Q m cy, .slice M q cm] w fun e w' => e = .returned (.bool true) ∧ Below w.heap.size w w' := by
  subst h1 h2 h3
  exact drrRound_law hx hy hm cx cy cm
end Go.Proofs.Ytgphbplmkegdeaa
