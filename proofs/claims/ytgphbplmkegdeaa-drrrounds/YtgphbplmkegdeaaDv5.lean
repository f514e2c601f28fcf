/- Package drr: Round; Round and Rounds of whatever arguments. -/
import Derived.Test.YtgphbplmkegdeaaDv4
namespace Go.Proofs.Ytgphbplmkegdeaa
open Go.RowKit Go.Maps

theorem round_made {w w1 w2 : World} {lb n : Nat} {CB : Option Addr} {cc : Nat} {L : Nat → List Int} {ms : List Int} (hc : Copies w w1 lb n L) (hb : Below w1.heap.size w1 w2) (hf : Fifo w1.heap.size w2 CB ms cc) (hl : ms.length = n) :
    ∃ B, Sv w (w2.alloc (.cells #[.slice none 0 0, .slice (some ⟨lb, 0, none⟩) n n, .slice CB n cc] 49)) B w2.heap.size lb n CB cc [] L ms := by
  have bo : Below w2.heap.size w2 (w2.alloc (.cells #[.slice none 0 0, .slice (some ⟨lb, 0, none⟩) n n, .slice CB n cc] 49)) := (Below.refl _ _).alloc (Nat.le_refl _) _
  have hbox : BoxAt (w2.alloc (.cells #[.slice none 0 0, .slice (some ⟨lb, 0, none⟩) n n, .slice CB n cc] 49)) w2.heap.size (.slice none 0 0) (.slice (some ⟨lb, 0, none⟩) n n) (.slice CB n cc) := heap_alloc_new w2 _
  obtain ⟨F, r, hF⟩ := hc.row
  have s1 := hc.below.size
  have s2 := hb.size
  have r2 := r.lt
  have hbb := hc.below.trans (hb.mono s1)
  refine ⟨_, sv_start (hbb.trans (bo.mono hbb.size)) (hc.later hb |>.later bo) ((hf.mono s1).below bo) hl hbox.row hbb.size (by omega) (fun g hg => by have := hf.ab g hg; omega) ⟨F, (r.of_block (hb.block _ r.lt)).of_block (bo.block _ (by omega)), fun j hj => ?_⟩⟩
  obtain ⟨A, c, e, ha, hab⟩ := hF j hj
  exact ⟨A, c, e, (ha.below hb).below bo, fun g hg => ⟨hab g hg, by have := ha.ab g hg; omega, fun hcb => by have := ha.ab g hg; have := hf.ab g hcb; omega⟩⟩

set_option maxRecDepth 100000 in
set_option maxHeartbeats 8000000 in
theorem round_ok {w : World} {P Q M : Option Addr} {xs : List Int} {fs : List (List Int)} {ms : List Int} (hx : IntsIn w P xs) (hy : ListsIn w Q fs) (hm : IntsIn w M ms) (hR : Right xs fs) (hC : Cred xs.length ms) (cx cy cm : Nat) :
    Calls Try.prog 10 #[.slice P xs.length cx, .slice Q fs.length cy, .slice M ms.length cm] w (Out w (outS xs fs ms 1) (outL xs fs ms 1) (outC xs fs ms 1) 0) := by
  have HW := Lib.hid (wrong_any hx hy cx cy)
  rw [hR.wrong] at HW
  have HB := Lib.hid (contains_wc hm cm)
  rw [show ms.any wc = false from by
    rw [List.any_eq_false]
    exact fun m h => by simpa using wc_false.2 (hC.all m h)] at HB
  have HC := Lib.hid (copies_any hy (by rw [hR.len]; exact hR.few) (fun f hf => (hR.flows f hf).1) cy)
  unfold Copied at HC
  have HCL := Lib.hid (fun W (hW : Below w.heap.size w W) => clone_any (hm.below hW) cm (fun e => by
    cases ms with
    | nil => rfl
    | cons x r =>
      obtain ⟨b2, o2, e2, _⟩ := hm.at_ (by simp)
      rw [e] at e2
      cases e2) (by rw [hC.len]; have := hR.few; omega))
  unfold ClonedI at HCL
  rw [hR.len] at HC HW ⊢
  rw [hC.len] at HB HCL ⊢
  have HL := Lib.hid hC.len
  have HRD := Lib.hid (fun W B sb lb CB cc (h : Sv w W B sb lb xs.length CB cc [] (fl fs) ms) => round_any (at_start hR hC h) hR hC hx cx)
  have HO := Lib.hid (fun W B sb lb CB cc (hA : At xs fs ms w W B sb lb CB cc 1 0) v hv => hA.out hR (v := v) hv)
  have H12 : Hid (∀ W B sb lb CB cc, At xs fs ms w W B sb lb CB cc 1 0 → W.cell? ⟨sb, 1, none⟩ = some (.slice (some ⟨lb, 0, none⟩) xs.length xs.length) ∧ W.cell? ⟨sb, 2, none⟩ = some (.slice CB xs.length cc)) := Lib.hid (fun W B sb lb CB cc h => ⟨Sv.c1 h, Sv.c2 h⟩)
  generalize Out w (outS xs fs ms 1) (outL xs fs ms 1) (outC xs fs ms 1) 0 = D at *
  generalize xs.length = n at *
  have e1 : ((n : Int) != (n : Int)) = false := by simp
  clear hx hy hm hR hC
  go_enter Try.func10, Try.ntmps10
  go_wp2_with fail
  refine HW.out.mono ?_
  rintro e w1 ⟨rfl, rfl⟩
  go_wp2_with fail
  refine HB.out.mono ?_
  rintro e w1 ⟨rfl, rfl⟩
  clear HB HW e1
  go_wp2_with fail
  refine HC.out.mono ?_
  rintro e w1 ⟨rfl, hc⟩
  have HC1 := Lib.hid hc
  clear hc HC
  have HCL1 := Lib.hid (HCL.out _ HC1.out.below)
  obtain ⟨lb, hlb⟩ : ∃ lb, w.heap.size = lb := ⟨_, rfl⟩
  rw [hlb] at HC1 ⊢
  clear HCL hlb
  go_wp2_with fail
  refine HCL1.out.mono ?_
  rintro e w2 ⟨CB, cc, rfl, hf, hb⟩
  obtain ⟨B, hs⟩ := round_made HC1.out hb hf HL.out
  have HS := Lib.hid (HRD.out _ _ _ _ _ _ hs)
  clear hf hb hs HC1 HCL1 HRD HL
  go_upto_region 9 with fail
  generalize w2.alloc (.cells #[.slice none 0 0, .slice (some ⟨lb, 0, none⟩) n n, .slice CB n cc] 49) = w3 at *
  generalize w2.heap.size = sb at *
  go_wp2_with fail
  refine HS.out.mono ?_
  rintro e w4 ⟨rfl, hA⟩
  obtain ⟨v, hv, -⟩ := hA.c0
  obtain ⟨c1, c2⟩ := H12.out _ _ _ _ _ _ hA
  have HZ := Lib.hid (fun q => HO.out _ _ _ _ _ _ (hA.drewN q) v hv)
  clear hA HS HO H12
  go_upto_region 10 with fail
  go_quiet (fail)
  go_wp2_with fail
  exact bodyPost_ret (results_four 6 7 8 9 rfl _ _) rfl (HZ.out _)

/-! ### whatever the arguments -/
def roundErr (xs : List Int) (fs : List (List Int)) (ms : List Int) : Int := if wrongL xs fs ≠ 0 then wrongL xs fs else if ms.length ≠ fs.length then 1 else if ms.any wc = true then 2 else 0
theorem wrongL_bne {xs : List Int} {fs : List (List Int)} (h : wrongL xs fs ≠ 0) : (wrongL xs fs != 0) = true := by
  rcases wrongL_way xs fs with k | k | k
  · rw [k.1]; rfl
  · rw [k.1]; rfl
  · exact absurd k.1 h
set_option maxHeartbeats 4000000 in
theorem round_no {w : World} {P Q M : Option Addr} {xs : List Int} {fs : List (List Int)} {ms : List Int} (hx : IntsIn w P xs) (hy : ListsIn w Q fs) (hm : IntsIn w M ms) (cx cy cm : Nat) {E : Int} (hE : roundErr xs fs ms = E) (h0 : E ≠ 0) :
    Calls Try.prog 10 #[.slice P xs.length cx, .slice Q fs.length cy, .slice M ms.length cm] w (Out w [] [] [] E) := by
  have HW := Lib.hid (wrong_any hx hy cx cy)
  have HB := Lib.hid (contains_wc hm cm)
  have HZ := Lib.hid (out_none (err := E) (Below.refl w.heap.size w))
  generalize Out w [] [] [] E = D at *
  unfold roundErr at hE
  by_cases c : wrongL xs fs ≠ 0
  · rw [if_pos c] at hE
    have hb := wrongL_bne c
    subst hE
    generalize wrongL xs fs = E at *
    clear hx hy hm h0 c HB
    go_enter Try.func10, Try.ntmps10
    go_wp2_with fail
    refine HW.out.mono ?_
    rintro e w1 ⟨rfl, rfl⟩
    go_wp2_with fail
    exact bodyPost_ret (results_four 6 7 8 9 rfl _ _) rfl HZ.out
  · rw [if_neg c] at hE
    rw [show wrongL xs fs = 0 by omega] at HW
    by_cases c2 : ms.length ≠ fs.length
    · rw [if_pos c2] at hE
      subst hE
      have hb : ((ms.length : Int) != (fs.length : Int)) = true := by simp; omega
      clear hx hy hm h0 c c2 HB
      go_enter Try.func10, Try.ntmps10
      go_wp2_with fail
      refine HW.out.mono ?_
      rintro e w1 ⟨rfl, rfl⟩
      go_wp2_with fail
      exact bodyPost_ret (results_four 6 7 8 9 rfl _ _) rfl HZ.out
    · rw [if_neg c2] at hE
      have hb : ((ms.length : Int) != (fs.length : Int)) = false := by simp; omega
      by_cases c3 : ms.any wc = true
      · rw [if_pos c3] at hE
        subst hE
        rw [c3] at HB
        clear hx hy hm h0 c c2 c3
        go_enter Try.func10, Try.ntmps10
        go_wp2_with fail
        refine HW.out.mono ?_
        rintro e w1 ⟨rfl, rfl⟩
        go_wp2_with fail
        refine HB.out.mono ?_
        rintro e w1 ⟨rfl, rfl⟩
        go_wp2_with fail
        exact bodyPost_ret (results_four 6 7 8 9 rfl _ _) rfl HZ.out
      · rw [if_neg c3] at hE
        omega
/-- What Round answers. -/
def roundOf (xs : List Int) (fs : List (List Int)) (ms : List Int) : List (Nat × Int) × List (List Int) × List Int × Int := if roundErr xs fs ms = 0 then (outS xs fs ms 1, outL xs fs ms 1, outC xs fs ms 1, 0) else ([], [], [], roundErr xs fs ms)
/-- What Rounds answers. -/
def roundsOf (xs : List Int) (fs : List (List Int)) (r : Int) : List (Nat × Int) × List (List Int) × List Int × Int := if roundsErr xs fs r = 0 then (outS xs fs (List.replicate xs.length 0) r.toNat, outL xs fs (List.replicate xs.length 0) r.toNat, outC xs fs (List.replicate xs.length 0) r.toNat, 0) else ([], [], [], roundsErr xs fs r)
theorem round_way (xs : List Int) (fs : List (List Int)) (ms : List Int) : ((roundErr xs fs ms = 1 ∨ roundErr xs fs ms = 2) ∧ roundOf xs fs ms = ([], [], [], roundErr xs fs ms)) ∨ (roundErr xs fs ms = 0 ∧ Right xs fs ∧ Cred xs.length ms ∧ roundOf xs fs ms = (outS xs fs ms 1, outL xs fs ms 1, outC xs fs ms 1, 0)) := by
  unfold roundOf
  rcases wrongL_way xs fs with k | k | k
  · have h : roundErr xs fs ms = 1 := by unfold roundErr; rw [if_pos (by omega), k.1]
    rw [if_neg (by omega)]; exact .inl ⟨.inl h, rfl⟩
  · have h : roundErr xs fs ms = 2 := by unfold roundErr; rw [if_pos (by omega), k.1]
    rw [if_neg (by omega)]; exact .inl ⟨.inr h, rfl⟩
  · have hl := k.2.len
    by_cases c2 : ms.length ≠ fs.length
    · have h : roundErr xs fs ms = 1 := by unfold roundErr; rw [if_neg (by omega), if_pos c2]
      rw [if_neg (by omega)]; exact .inl ⟨.inl h, rfl⟩
    · by_cases c3 : ms.any wc = true
      · have h : roundErr xs fs ms = 2 := by unfold roundErr; rw [if_neg (by omega), if_neg c2, if_pos c3]
        rw [if_neg (by omega)]; exact .inl ⟨.inr h, rfl⟩
      · have h : roundErr xs fs ms = 0 := by unfold roundErr; rw [if_neg (by omega), if_neg c2, if_neg c3]
        rw [if_pos h]
        refine .inr ⟨h, k.2, ⟨by omega, fun m hm => ?_⟩, rfl⟩
        rw [Bool.not_eq_true, List.any_eq_false] at c3
        exact wc_false.1 (by simpa using c3 m hm)
theorem rounds_way (xs : List Int) (fs : List (List Int)) (r : Int) : ((roundsErr xs fs r = 1 ∨ roundsErr xs fs r = 2) ∧ roundsOf xs fs r = ([], [], [], roundsErr xs fs r)) ∨ (roundsErr xs fs r = 0 ∧ Right xs fs ∧ ∃ n : Nat, r = (n : Int) ∧ n ≤ 400 ∧ roundsOf xs fs r = (outS xs fs (List.replicate xs.length 0) n, outL xs fs (List.replicate xs.length 0) n, outC xs fs (List.replicate xs.length 0) n, 0)) := by
  unfold roundsOf
  rcases wrongL_way xs fs with k | k | k
  · have h : roundsErr xs fs r = 1 := by unfold roundsErr; rw [if_pos (by omega), k.1]
    rw [if_neg (by omega)]; exact .inl ⟨.inl h, rfl⟩
  · have h : roundsErr xs fs r = 2 := by unfold roundsErr; rw [if_pos (by omega), k.1]
    rw [if_neg (by omega)]; exact .inl ⟨.inr h, rfl⟩
  · by_cases c2 : 0 ≤ r ∧ r ≤ 400
    · have h : roundsErr xs fs r = 0 := by unfold roundsErr; rw [if_neg (by omega), if_pos c2]
      rw [if_pos h]
      exact .inr ⟨h, k.2, r.toNat, by omega, by omega, rfl⟩
    · have h : roundsErr xs fs r = 2 := by unfold roundsErr; rw [if_neg (by omega), if_neg c2]
      rw [if_neg (by omega)]; exact .inl ⟨.inr h, rfl⟩
theorem round_any2 {w : World} {P Q M : Option Addr} {xs : List Int} {fs : List (List Int)} {ms : List Int} (hx : IntsIn w P xs) (hy : ListsIn w Q fs) (hm : IntsIn w M ms) (cx cy cm : Nat) :
    Calls Try.prog 10 #[.slice P xs.length cx, .slice Q fs.length cy, .slice M ms.length cm] w (Out w (roundOf xs fs ms).1 (roundOf xs fs ms).2.1 (roundOf xs fs ms).2.2.1 (roundOf xs fs ms).2.2.2) := by
  rcases round_way xs fs ms with ⟨h, e⟩ | ⟨_, hR, hC, e⟩
  · rw [e]; exact round_no hx hy hm cx cy cm (E := roundErr xs fs ms) rfl (by omega)
  · rw [e]; exact round_ok hx hy hm hR hC cx cy cm
theorem rounds_any {w : World} {P Q : Option Addr} {xs : List Int} {fs : List (List Int)} (hx : IntsIn w P xs) (hy : ListsIn w Q fs) (cx cy : Nat) (r : Int) :
    Calls Try.prog 19 #[.slice P xs.length cx, .slice Q fs.length cy, .int .i64 r] w (Out w (roundsOf xs fs r).1 (roundsOf xs fs r).2.1 (roundsOf xs fs r).2.2.1 (roundsOf xs fs r).2.2.2) := by
  rcases rounds_way xs fs r with ⟨h, e⟩ | ⟨_, hR, n, rfl, hn, e⟩
  · rw [e]; exact rounds_no hx hy cx cy (E := roundsErr xs fs r) rfl (by omega)
  · rw [e]; exact rounds_ok hx hy hR cx cy hn
end Go.Proofs.Ytgphbplmkegdeaa
