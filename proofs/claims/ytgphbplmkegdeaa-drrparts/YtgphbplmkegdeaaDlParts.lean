/- DrrParts: so many rounds, and one more, are all of them. -/
import Derived.Test.YtgphbplmkegdeaaDl2
import Derived.Test.YtgphbplmkegdeaaDlM
import Derived.Test.YtgphbplmkegdeaaSnCat
namespace Go.Proofs.Ytgphbplmkegdeaa
open Go.RowKit Go.Maps

set_option maxRecDepth 100000 in
set_option maxHeartbeats 16000000 in
theorem drrParts_law {w : World} {P Q : Option Addr} {xs : List Int} {fs : List (List Int)} (hx : IntsIn w P xs) (hy : ListsIn w Q fs) (cx cy : Nat) (r : Int) :
    Calls Try.prog 7 #[.slice P xs.length cx, .slice Q fs.length cy, .int .i64 r] w fun e w' => e = .returned (.bool true) ∧ Below w.heap.size w w' := by
  have HA := Lib.hid alive14_any
  have HE := Lib.hid (fun W (hW : Below w.heap.size w W) => rounds_any (hx.below hW) (hy.below hW) cx cy r)
  unfold Out at HE
  rcases rounds_way xs fs r with ⟨h12, he⟩ | ⟨_, hR, q, rfl, hq, he⟩
  · have hE : (roundsErr xs fs r != 0) = true := by rcases h12 with h | h <;> rw [h] <;> rfl
    rw [he] at HE
    generalize roundsErr xs fs r = E at *
    clear hx hy h12 he
    simp only [List.length_nil] at HE
    go_enter Try.func7, Try.ntmps7
    go_wp2_with fail
    refine (HA.out _).mono ?_
    rintro e w1 ⟨rfl, hb⟩
    have H1 := Lib.hid hb
    clear hb HA
    go_wp2_with fail
    refine (HE.out _ H1.out).mono ?_
    rintro e w2 ⟨A, cA, B, cB, D, cD, rfl, -, -, -, hb, -⟩
    have H2 := Lib.hid (H1.out.trans (hb.mono H1.out.size))
    clear hb HE H1
    go_wp2_with fail
    go_ret
    exact ⟨rfl, H2.out⟩
  · rw [he] at HE
    obtain ⟨n, hn⟩ : ∃ n, xs.length = n := ⟨_, rfl⟩
    have hm : fs.length = n := by rw [hR.len, hn]
    simp only [outL_length, outC_length] at HE
    by_cases c4 : q = 400
    · have e2 : ((q : Int) == 400) = true := by rw [c4]; rfl
      rw [hn, hm] at HE
      rw [hn, hm]
      clear hx hy he hR hn hm hq c4
      generalize outS xs fs (List.replicate n 0) q = S at *
      generalize outL xs fs (List.replicate n 0) q = L at *
      generalize outC xs fs (List.replicate n 0) q = C at *
      generalize S.length = sl at *
      go_enter Try.func7, Try.ntmps7
      go_wp2_with fail
      refine (HA.out _).mono ?_
      rintro e w1 ⟨rfl, hb⟩
      have H1 := Lib.hid hb
      clear hb HA
      go_wp2_with fail
      refine (HE.out _ H1.out).mono ?_
      rintro e w2 ⟨A, cA, B, cB, D, cD, rfl, -, -, -, hb, -⟩
      have H2 := Lib.hid (H1.out.trans (hb.mono H1.out.size))
      clear hb HE H1
      go_wp2_with fail
      go_ret
      exact ⟨rfl, H2.out⟩
    · obtain ⟨R1, hR1⟩ : ∃ R1 : Int, ((q + 1 : Nat) : Int) = R1 := ⟨_, rfl⟩
      have HG := Lib.hid (fun W (hW : Below w.heap.size w W) => rounds_ok (hx.below hW) (hy.below hW) hR cx cy (r := q + 1) (by omega))
      unfold Out at HG
      simp only [outL_length, outC_length] at HG
      have HF := Lib.hid (fun W B D cB cD (hW : Below w.heap.size w W) (hL : ListsIn W B (outL xs fs (List.replicate xs.length 0) q)) (hC : IntsIn W D (outC xs fs (List.replicate xs.length 0) q)) => round_ok (hx.below hW) hL hC (right_more hR q) (cred_more hR (Cred.zero _) q) cx cB cD)
      unfold Out at HF
      rw [outL_more, outC_more] at HF
      simp only [outL_length, outC_length] at HF
      have hSS := outS_more (xs := xs) (fs := fs) (ms := List.replicate xs.length 0) q
      have HLS := Lib.hid (And.intro (outS_len (ms := List.replicate xs.length 0) hR (q + 1)) hSS)
      have HLL := Lib.hid (And.intro (outL_length xs fs (List.replicate xs.length 0) (q + 1)) (outC_length xs fs (List.replicate xs.length 0) (q + 1)))
      rw [hR1] at HG
      have e1 : wrap64 ((q : Int) + 1) = R1 := by rw [← hR1]; exact IntWalk.wrap64_in _ (by constructor <;> omega)
      have e2 : ((q : Int) == 400) = false := by simp; omega
      generalize outS xs (outL xs fs (List.replicate xs.length 0) q) (outC xs fs (List.replicate xs.length 0) q) 1 = S1 at *
      generalize outS xs fs (List.replicate xs.length 0) q = S at *
      generalize outS xs fs (List.replicate xs.length 0) (q + 1) = S2 at *
      generalize outL xs fs (List.replicate xs.length 0) q = L at *
      generalize outC xs fs (List.replicate xs.length 0) q = C at *
      generalize outL xs fs (List.replicate xs.length 0) (q + 1) = L2 at *
      generalize outC xs fs (List.replicate xs.length 0) (q + 1) = C2 at *
      subst hSS
      rw [hn, hm] at HE HG
      rw [hn] at HF HLL
      rw [hn, hm]
      clear hx hy he hR hn hm hq hR1 c4
      go_enter Try.func7, Try.ntmps7
      go_wp2_with fail
      refine (HA.out _).mono ?_
      rintro e w1 ⟨rfl, hb⟩
      have H1 := Lib.hid hb
      clear hb HA
      go_wp2_with fail
      refine (HE.out _ H1.out).mono ?_
      rintro e w2 ⟨A, cA, B, cB, D, cD, rfl, hS, hL, hC, hb, -⟩
      have H2 := Lib.hid (And.intro (H1.out.trans (hb.mono H1.out.size)) (And.intro hS (And.intro hL hC)))
      clear hb HE H1 hS hL hC
      obtain ⟨sl, hsl⟩ : ∃ sl, S.length = sl := ⟨_, rfl⟩
      have HSL := Lib.hid hsl
      rw [hsl]
      clear hsl
      go_wp2_with fail
      refine (HF.out _ B D cB cD H2.out.1 H2.out.2.2.1 H2.out.2.2.2).mono ?_
      rintro e w3 ⟨A2, cA2, B2, cB2, D2, cD2, rfl, hS, hL, hC, hb, -⟩
      have H3 := Lib.hid (And.intro (H2.out.1.trans (hb.mono H2.out.1.size)) (And.intro (H2.out.2.1.below hb) (And.intro hS (And.intro hL hC))))
      clear hb HF H2 hS hL hC
      obtain ⟨sl1, hsl1⟩ : ∃ sl, S1.length = sl := ⟨_, rfl⟩
      have HSL1 := Lib.hid hsl1
      rw [hsl1]
      clear hsl1
      go_wp2_with fail
      refine (HG.out _ H3.out.1).mono ?_
      rintro e w4 ⟨A3, cA3, B3, cB3, D3, cD3, rfl, hS, hL, hC, hb, -⟩
      have H4 := Lib.hid (And.intro (H3.out.1.trans (hb.mono H3.out.1.size)) (And.intro (H3.out.2.1.below hb) (And.intro (H3.out.2.2.1.below hb) (And.intro (H3.out.2.2.2.1.below hb) (And.intro (H3.out.2.2.2.2.below hb) (And.intro hS (And.intro hL hC)))))))
      clear hb HG H3 hS hL hC
      have HCC := Lib.hid (concat_pairS (cap1 := cA) (cap2 := cA2) H4.out.2.1 H4.out.2.2.1 (by have := HLS.out.1; rw [List.length_append] at this; omega))
      rw [HSL.out, HSL1.out] at HCC
      obtain ⟨sl2, hsl2⟩ : ∃ sl, (S ++ S1).length = sl := ⟨_, rfl⟩
      have HSL2 := Lib.hid hsl2
      rw [hsl2] at HCC ⊢
      clear hsl2 e1 e2
      go_wp2_with fail
      refine HCC.out.mono ?_
      rintro e w5 ⟨A4, cA4, rfl, hS, hb⟩
      have H5 := Lib.hid (And.intro (H4.out.1.trans (hb.mono H4.out.1.size)) (And.intro hS (And.intro (H4.out.2.2.2.1.below hb) (And.intro (H4.out.2.2.2.2.1.below hb) (And.intro (H4.out.2.2.2.2.2.1.below hb) (And.intro (H4.out.2.2.2.2.2.2.1.below hb) (H4.out.2.2.2.2.2.2.2.below hb)))))))
      clear hb H4 hS HCC
      have HQ := Lib.hid (equal_sents H5.out.2.1 H5.out.2.2.2.2.1 cA4 cA3 (by have := HLS.out.1; omega))
      rw [HSL2.out, decide_eq_true rfl] at HQ
      go_wp2_with fail
      refine HQ.out.mono ?_
      rintro e w6 ⟨rfl, k6, rfl⟩
      have HQ2 := Lib.hid (same_lists (H5.out.2.2.1.below (below_drewN (Below.refl _ _) k6)) (H5.out.2.2.2.2.2.1.below (below_drewN (Below.refl _ _) k6)) cB2 cB3)
      rw [HLL.out.1] at HQ2
      clear HQ
      go_wp2_with fail
      refine HQ2.out.mono ?_
      rintro e w7 ⟨rfl, k7, rfl⟩
      have HQ3 := Lib.hid (equal_any (H5.out.2.2.2.1.below (below_drewN (Below.refl _ _) (k6 + k7))) (H5.out.2.2.2.2.2.2.below (below_drewN (Below.refl _ _) (k6 + k7))) cD2 cD3)
      rw [HLL.out.2, decide_eq_true rfl] at HQ3
      clear HQ2
      go_wp2_with fail
      refine HQ3.out.mono ?_
      rintro e w8 ⟨rfl, k8, rfl⟩
      go_wp2_with fail
      go_ret
      exact ⟨rfl, below_drewN H5.out.1 _⟩
theorem drrParts_walk {w : World} {P Q : Option Addr} {xs : List Int} {fs : List (List Int)} {n m : Nat} (hx : IntsIn w P xs) (h1 : xs.length = n) (hy : ListsIn w Q fs) (h2 : fs.length = m) (cx cy : Nat) (r : Int) :
    Calls Try.prog 7 #[.slice P n cx, .slice Q m cy, .int .i64 r] w fun e w' => e = .returned (.bool true) ∧ Below w.heap.size w w' := by
  subst h1 h2
  exact drrParts_law hx hy cx cy r
end Go.Proofs.Ytgphbplmkegdeaa
