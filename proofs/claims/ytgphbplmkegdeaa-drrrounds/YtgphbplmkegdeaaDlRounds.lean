/- DrrRounds: Rounds of package drr answers what the document says. -/
import Derived.Test.YtgphbplmkegdeaaDl1
import Derived.Test.YtgphbplmkegdeaaNrW
import Derived.Test.YtgphbplmkegdeaaNr2
namespace Go.Proofs.Ytgphbplmkegdeaa
open Go.RowKit Go.Maps

theorem zeros_laid (w : World) (n : Nat) (hn : n ≤ 16) : IntsIn (w.alloc (.cells (madeCells #[.int .i64 0] n) 3)) (some ⟨w.heap.size, 0, none⟩) (List.replicate n 0) ∧ Below w.heap.size w (w.alloc (.cells (madeCells #[.int .i64 0] n) 3)) := by
  have hr := World.rowIs_made w (.int .i64 0) n 3
  refine ⟨⟨fun _ => ⟨w.heap.size, 0, rfl, hr.lt, fun j x hx => ?_⟩, by rw [List.length_replicate]; omega⟩, (Below.refl _ _).alloc (Nat.le_refl _) _⟩
  have hj := lt_of_some hx
  rw [List.length_replicate] at hj
  rw [Nat.zero_add, hr.cell hj, (List.mem_replicate.1 (List.mem_of_getElem? hx)).2]
set_option maxRecDepth 100000 in
set_option maxHeartbeats 16000000 in
theorem drrRounds_law {w : World} {P Q : Option Addr} {xs : List Int} {fs : List (List Int)} (hx : IntsIn w P xs) (hy : ListsIn w Q fs) (cx cy : Nat) (r : Int) :
    Calls Try.prog 4 #[.slice P xs.length cx, .slice Q fs.length cy, .int .i64 r] w fun e w' => e = .returned (.bool true) ∧ Below w.heap.size w w' := by
  have HE := Lib.hid (rounds_any hx hy cx cy r)
  unfold Out at HE
  have HN := Lib.hid (fun W (hW : Below w.heap.size w W) => nwrong_any (hx.below hW) (hy.below hW) cx cy)
  by_cases c : wrongL xs fs ≠ 0
  · have hb := wrongL_bne c
    have he : roundsOf xs fs r = ([], [], [], wrongL xs fs) := by
      have h1 : roundsErr xs fs r = wrongL xs fs := by unfold roundsErr; rw [if_pos c]
      unfold roundsOf
      rw [if_neg (by rw [h1]; exact c), h1]
    have hb2 : (wrongL xs fs == 0) = false := by simpa using c
    rw [he] at HE
    simp only [List.length_nil] at HE
    generalize wrongL xs fs = E at *
    clear hx hy c he
    generalize xs.length = n at *
    generalize fs.length = m at *
    go_enter Try.func4, Try.ntmps4
    go_wp2_with fail
    refine HE.out.mono ?_
    rintro e w1 ⟨A, cA, B, cB, D, cD, rfl, -, -, -, hb, -⟩
    have H1 := Lib.hid hb
    clear hb HE
    go_wp2_with fail
    refine (HN.out _ H1.out).mono ?_
    rintro e w2 ⟨rfl, rfl⟩
    clear HN
    go_wp2_with fail
    go_ret
    exact ⟨ret_bool (by simp), H1.out⟩
  · have c : wrongL xs fs = 0 := by omega
    rw [c] at HN
    rcases rounds_way xs fs r with ⟨h12, he⟩ | ⟨_, hR, q, rfl, hq, he⟩
    · rw [he] at HE
      simp only [List.length_nil] at HE
      have h2 : roundsErr xs fs r = 2 ∧ (r < 0 ∨ 400 < r) := by
        unfold roundsErr at h12 ⊢
        rw [if_neg (by omega)] at h12 ⊢
        by_cases h : 0 ≤ r ∧ r ≤ 400
        · rw [if_pos h] at h12
          omega
        · rw [if_neg h]
          omega
      obtain ⟨h2, h3⟩ := h2
      rw [h2] at HE
      clear hx hy c h12 he h2
      generalize xs.length = n at *
      generalize fs.length = m at *
      by_cases c1 : r < 0
      · clear h3
        go_enter Try.func4, Try.ntmps4
        go_wp2_with fail
        refine HE.out.mono ?_
        rintro e w1 ⟨A, cA, B, cB, D, cD, rfl, -, -, -, hb, -⟩
        have H1 := Lib.hid hb
        clear hb HE
        go_wp2_with fail
        refine (HN.out _ H1.out).mono ?_
        rintro e w2 ⟨rfl, rfl⟩
        clear HN
        go_wp2_with fail
        go_ret
        exact ⟨ret_bool (by simp), H1.out⟩
      · have c2 : 400 < r := by omega
        clear h3
        go_enter Try.func4, Try.ntmps4
        go_wp2_with fail
        refine HE.out.mono ?_
        rintro e w1 ⟨A, cA, B, cB, D, cD, rfl, -, -, -, hb, -⟩
        have H1 := Lib.hid hb
        clear hb HE
        go_wp2_with fail
        refine (HN.out _ H1.out).mono ?_
        rintro e w2 ⟨rfl, rfl⟩
        clear HN
        go_wp2_with fail
        go_ret
        exact ⟨ret_bool (by simp), H1.out⟩
    · rw [he] at HE
      have HR := Lib.hid (fun W D (hW : Below w.heap.size w W) (hD : IntsIn W D (List.replicate xs.length 0)) => nrounds_any (hx.below hW) (hy.below hW) hD hR (Cred.zero _) cx cy xs.length hq)
      unfold NOut at HR
      have HSL := Lib.hid (outS_len (ms := List.replicate xs.length 0) hR q)
      have HLL := Lib.hid (And.intro (outL_length xs fs (List.replicate xs.length 0) q) (outC_length xs fs (List.replicate xs.length 0) q))
      simp only [outL_length, outC_length] at HE HR
      rw [hR.len] at HE HN ⊢
      have h16 := hR.few
      have HZL := Lib.hid (fun W => zeros_laid W xs.length h16)
      generalize outS xs fs (List.replicate xs.length 0) q = S at *
      generalize outL xs fs (List.replicate xs.length 0) q = L at *
      generalize outC xs fs (List.replicate xs.length 0) q = C at *
      generalize xs.length = n at *
      have hmk := run_make_row' (P := Try.prog) 22 3 (.int .i64 0) 8 Try.underlying22 (by kernel_rfl) rfl .i64 .i64 n (by omega) (by omega)
      obtain ⟨sl, hsl⟩ : ∃ sl, S.length = sl := ⟨_, rfl⟩
      have HSN := Lib.hid hsl
      rw [hsl] at HE HR HSL
      have g1 : ¬ (q : Int) < 0 := by omega
      have g2 : ¬ 400 < (q : Int) := by omega
      clear hx hy c hR he hsl hq h16
      go_enter Try.func4, Try.ntmps4
      go_wp2_with fail
      refine HE.out.mono ?_
      rintro e w1 ⟨A, cA, B, cB, D, cD, rfl, hS, hL, hC, hb, -⟩
      have H1 := Lib.hid (And.intro hb (And.intro hS (And.intro hL hC)))
      clear hb hS hL hC HE
      go_wp2_with fail
      refine (HN.out _ H1.out.1).mono ?_
      rintro e w2 ⟨rfl, rfl⟩
      clear HN
      have hz := HZL.out w1
      have H2 := Lib.hid (And.intro (H1.out.1.trans (hz.2.mono H1.out.1.size)) (And.intro (H1.out.2.1.below hz.2) (And.intro (H1.out.2.2.1.below hz.2) (And.intro (H1.out.2.2.2.below hz.2) hz.1))))
      clear hz HZL H1
      go_wp2_with fail
      refine (HR.out _ _ H2.out.1 H2.out.2.2.2.2).mono ?_
      rintro e w3 ⟨A2, cA2, B2, cB2, D2, cD2, rfl, hS, hL, hC, hb⟩
      have H3 := Lib.hid (And.intro (H2.out.1.trans (hb.mono H2.out.1.size)) (And.intro (H2.out.2.1.below hb) (And.intro (H2.out.2.2.1.below hb) (And.intro (H2.out.2.2.2.1.below hb) (And.intro hS (And.intro hL hC))))))
      clear hb hS hL hC HR H2 hmk g1 g2
      have HQ := Lib.hid (equal_sents H3.out.2.1 H3.out.2.2.2.2.1 cA cA2 (by rw [HSN.out]; exact Nat.le_trans HSL.out (by decide)))
      rw [HSN.out, decide_eq_true rfl] at HQ
      go_wp2_with fail
      refine HQ.out.mono ?_
      rintro e w4 ⟨rfl, k4, rfl⟩
      have HQ2 := Lib.hid (same_lists (H3.out.2.2.1.below (below_drewN (Below.refl _ _) k4)) (H3.out.2.2.2.2.2.1.below (below_drewN (Below.refl _ _) k4)) cB cB2)
      rw [HLL.out.1] at HQ2
      clear HQ
      go_wp2_with fail
      refine HQ2.out.mono ?_
      rintro e w5 ⟨rfl, k5, rfl⟩
      have HQ3 := Lib.hid (equal_any (H3.out.2.2.2.1.below (below_drewN (Below.refl _ _) (k4 + k5))) (H3.out.2.2.2.2.2.2.below (below_drewN (Below.refl _ _) (k4 + k5))) cD cD2)
      rw [HLL.out.2, decide_eq_true rfl] at HQ3
      clear HQ2
      go_wp2_with fail
      refine HQ3.out.mono ?_
      rintro e w6 ⟨rfl, k6, rfl⟩
      go_wp2_with fail
      go_ret
      exact ⟨rfl, below_drewN H3.out.1 _⟩
theorem drrRounds_walk {w : World} {P Q : Option Addr} {xs : List Int} {fs : List (List Int)} {n m : Nat} (hx : IntsIn w P xs) (h1 : xs.length = n) (hy : ListsIn w Q fs) (h2 : fs.length = m) (cx cy : Nat) (r : Int) :
    Calls Try.prog 4 #[.slice P n cx, .slice Q m cy, .int .i64 r] w fun e w' => e = .returned (.bool true) ∧ Below w.heap.size w w' := by
  subst h1 h2
  exact drrRounds_law hx hy cx cy r
end Go.Proofs.Ytgphbplmkegdeaa
