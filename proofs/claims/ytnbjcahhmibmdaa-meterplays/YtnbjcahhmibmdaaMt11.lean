/- The reference: JColour where it colours, where little came. -/
import Derived.Test.YtnbjcahhmibmdaaMt10
namespace Go.Proofs.Ytnbjcahhmibmdaa
open Go.RowKit Go.Maps

set_option maxRecDepth 100000 in
set_option maxHeartbeats 8000000 in
theorem jColour_small {b : Mt} {t n had : Int} (hr : b.right = true) (h1 : ¬ had < 1) (h3 : ¬ 3 < had) (k0 : ¬ t < b.tm) (k1 : ¬ 1099511627776 < t) (k2 : ¬ n < 0) (k3 : ¬ 1048576 < n) (hv : b.come t < 4194304) (w : World) :
    Calls Try.prog 10 #[.agg b.cells, .agg #[.int .i64 t, .int .i64 n], .int .i64 had] w (Told w (b.colour t n had)) := by
  have HX := Lib.hid (box3 w b t n)
  have HR := Lib.hid (fun W => jRight_any b W)
  rw [hr] at HR
  have hok := Mt.right_iff.1 hr
  have hco := hok.come (show b.tm ≤ t by omega) (show t ≤ 1099511627776 by omega)
  obtain ⟨D, hD⟩ : ∃ D, t - b.tm = D := ⟨_, rfl⟩
  have e1 : IntKind.i64.wrap (t - b.tm) = D := by rw [hD]; exact wrap_i64 (by have := hok.t0; omega) (by have := hok.t0; omega)
  obtain ⟨V, hV⟩ : ∃ V, b.rate * D = V := ⟨_, rfl⟩
  have hcV : b.come t = V := by unfold Mt.come; rw [hD, hV]
  rw [hcV] at hco hv
  have H1 := Lib.hid (fun W => newInt_pos (x := b.rate) hok.r0 (by have := hok.r1; omega) W)
  have H2 := Lib.hid (fun W => newInt_pos (x := D) (by omega) (by have := hok.t0; omega) W)
  have H4 := Lib.hid (fun W => newInt_pos (x := 4194304) (by decide) (by decide) W)
  have HFM : Hid (Fits (b.rate * D).natAbs) := Lib.hid (by rw [hV]; exact fits_small (by omega))
  have HVE := Lib.hid hV
  have HN : Hid (V.natAbs < 9223372036854775808) := Lib.hid (by omega)
  obtain ⟨G1, F1, F, O, G2, F2, S, O2, hp⟩ := poured hok (N := V) (by omega) (by omega)
  obtain ⟨p1, p2, p3, p4, p5, p6, p7, p8, hpour⟩ := hp
  obtain ⟨bt, hbt⟩ : ∃ bt, b.fill t = bt := ⟨_, rfl⟩
  have HBT : Hid (Mt.mk b.rate b.burst b.exc F S t = bt) := Lib.hid (by
    rw [← hbt, ← hpour t]
    unfold Mt.fill
    rw [hcV]
    )
  have hokt : bt.Ok := by rw [← hbt]; exact hok.fill (by omega) (by omega)
  have HOK := Lib.hid (And.intro hokt (show 0 ≤ n ∧ n ≤ 1048576 by omega))
  have hcf := Mt.colour_fine (t := t) (n := n) (had := had) hr (btw_true.2 ⟨by omega, by omega⟩) (btw_true.2 ⟨by omega, by omega⟩) (btw_true.2 ⟨by omega, by omega⟩)
  rw [hbt] at hcf
  have HG : Hid (∀ W, Below w.heap.size w W → had = 1 → n ≤ bt.fst → Told w (b.colour t n had) (.returned (.tuple #[.agg (Mt.mk bt.rate bt.burst bt.exc (bt.fst - n) bt.snd bt.tm).cells, .int .i64 1, .int .i64 0])) W) := Lib.hid (fun W hW e h => told_mk (by rw [hcf, e, mark_green h]) hW)
  have HY : Hid (∀ W, Below w.heap.size w W → (had ≠ 1 ∨ ¬ n ≤ bt.fst) → had ≠ 3 → n ≤ bt.snd → Told w (b.colour t n had) (.returned (.tuple #[.agg (Mt.mk bt.rate bt.burst bt.exc bt.fst (bt.snd - n) bt.tm).cells, .int .i64 2, .int .i64 0])) W) := Lib.hid (fun W hW e1 e3 h => told_mk (by rw [hcf, mark_yellow e1 e3 h]) hW)
  have HD : Hid (∀ W, Below w.heap.size w W → (had ≠ 1 ∨ ¬ n ≤ bt.fst) → (had = 3 ∨ ¬ n ≤ bt.snd) → Told w (b.colour t n had) (.returned (.tuple #[.agg bt.cells, .int .i64 3, .int .i64 0])) W) := Lib.hid (fun W hW e1 e3 => told_mk (by rw [hcf, mark_red e1 e3]) hW)
  have HH : Hid (had = 1 ∨ had = 2 ∨ had = 3) := Lib.hid (by omega)
  clear hr hok hco hD hcV hpour hbt hokt hcf
  generalize Told w (b.colour t n had) = Q at *
  obtain ⟨⟨c0, c1, c2, c3, c4, c5⟩, s0, s1⟩ := HX.out.cells
  unfold Mt.cells at HR ⊢
  go_enter Try.func10, Try.ntmps10
  go_upto_region 1 with fail
  change Code.wp _ _ _ _ (three w b t n)
  generalize three w b t n = m0 at *
  go_wp2_with fail
  refine (HR.out _).mono ?_
  rintro e m ⟨rfl, hb⟩
  have HX1 := Lib.hid (HX.out.later hb)
  clear HR hb HX c0 c1 c2 c3 c4 c5 s0 s1
  obtain ⟨⟨c0, c1, c2, c3, c4, c5⟩, s0, s1⟩ := HX1.out.cells
  go_upto_region 7 with fail
  have HS : Hid (∀ W, Below m.heap.size m W → (fun W : World => W.cell? ⟨w.heap.size, 0, none⟩ = some (.int .i64 b.rate) ∧ W.cell? ⟨w.heap.size, 5, none⟩ = some (.int .i64 b.tm) ∧ W.cell? ⟨w.heap.size + 1, 0, none⟩ = some (.int .i64 t)) W) := Lib.hid (fun W hW => ⟨(HX1.out.later hW).first.cells.1, (HX1.out.later hW).first.cells.2.2.2.2.2, (HX1.out.later hW).shot.cells.1⟩)
  clear c0 c1 c2 c3 c4 c5 s0 s1
  have HP := Lib.hid (And.intro hv (And.intro p1 (And.intro p2 (And.intro p3 (And.intro p4 (And.intro p5 (And.intro p6 (And.intro p7 p8))))))))
  clear hv h1 h3 k0 k1 k2 k3 p1 p2 p3 p4 p5 p6 p7 p8 hV
  go_cut [9] (fun v wx => Hid (∃ g, v = .pointer (some ⟨g, 0, none⟩) ∧ IntAt wx g (b.rate * D) ∧ m.heap.size ≤ g ∧ Below m.heap.size m wx))
  case first =>
    refine wp_region_held_drew (S := (fun W : World => W.cell? ⟨w.heap.size, 0, none⟩ = some (.int .i64 b.rate) ∧ W.cell? ⟨w.heap.size, 5, none⟩ = some (.int .i64 b.tm) ∧ W.cell? ⟨w.heap.size + 1, 0, none⟩ = some (.int .i64 t))) (by kernel_rfl) (HS.out _ (Below.refl _ _).drew) (fun hHeld => ?_)
    obtain ⟨w0, hw0⟩ : ∃ W0, W0 = m.drew := ⟨_, rfl⟩
    have HB0 : Hid (Below m.heap.size m w0) := Lib.hid (by rw [hw0]; exact (Below.refl _ _).drew)
    rw [← hw0] at hHeld ⊢
    clear hw0
    refine wpAnyH_take (i := 1) (v := ?_) (by simp only [List.getElem?_toArray, List.getElem?_cons_succ, List.getElem?_cons_zero] <;> rfl) (by kernel_rfl) (by kernel_rfl) (by kernel_rfl) (by exact fun _ _ _ h => h) (Or.inl ⟨by rfl, ?_⟩) hHeld ?_
    rotate_left
    · intro w hSw; (try dsimp only at hSw); go_simp; (try with_reducible rfl)
    (try simp only [Act.put, List.setIfInBounds_toArray, List.set_cons_zero, List.set_cons_succ])
    refine wpAnyH_take (i := 2) (v := ?_) (by simp only [List.getElem?_toArray, List.getElem?_cons_succ, List.getElem?_cons_zero] <;> rfl) (by kernel_rfl) (by kernel_rfl) (by kernel_rfl) (by exact fun _ _ _ h => h) (Or.inl ⟨by rfl, ?_⟩) hHeld ?_
    rotate_left
    · intro w hSw; (try dsimp only at hSw); go_simp; (try with_reducible rfl)
    (try simp only [Act.put, List.setIfInBounds_toArray, List.set_cons_zero, List.set_cons_succ])
    refine wpAnyH_take (i := 4) (v := ?_) (by simp only [List.getElem?_toArray, List.getElem?_cons_succ, List.getElem?_cons_zero] <;> rfl) (by kernel_rfl) (by kernel_rfl) (by kernel_rfl) (by exact fun _ _ _ h => h) (Or.inl ⟨by rfl, ?_⟩) hHeld ?_
    rotate_left
    · intro w hSw; (try dsimp only at hSw); go_simp; (try with_reducible rfl)
    (try simp only [Act.put, List.setIfInBounds_toArray, List.set_cons_zero, List.set_cons_succ])
    refine wpAnyH_take (i := 5) (v := ?_) (by simp only [List.getElem?_toArray, List.getElem?_cons_succ, List.getElem?_cons_zero] <;> rfl) (by kernel_rfl) (by kernel_rfl) (by kernel_rfl) (by exact fun _ _ _ h => h) (Or.inl ⟨by rfl, ?_⟩) hHeld ?_
    rotate_left
    · intro w hSw; (try dsimp only at hSw); go_simp; (try with_reducible rfl)
    (try simp only [Act.put, List.setIfInBounds_toArray, List.set_cons_zero, List.set_cons_succ])
    refine wpAnyH_take (i := 6) (v := ?_) (by simp only [List.getElem?_toArray, List.getElem?_cons_succ, List.getElem?_cons_zero] <;> rfl) (by kernel_rfl) (by kernel_rfl) (by kernel_rfl) (by exact fun _ _ _ h => h) (Or.inl ⟨by rfl, ?_⟩) hHeld ?_
    rotate_left
    · intro w hSw; (try dsimp only at hSw); go_simp; (try with_reducible rfl)
    (try simp only [Act.put, List.setIfInBounds_toArray, List.set_cons_zero, List.set_cons_succ])
    refine wpAnyH_take (i := 7) (v := ?_) (by simp only [List.getElem?_toArray, List.getElem?_cons_succ, List.getElem?_cons_zero] <;> rfl) (by kernel_rfl) (by kernel_rfl) (by kernel_rfl) (by exact fun _ _ _ h => h) (Or.inl ⟨by rfl, ?_⟩) hHeld ?_
    rotate_left
    · intro w hSw; (try dsimp only at hSw); go_simp; (try with_reducible rfl)
    (try simp only [Act.put, List.setIfInBounds_toArray, List.set_cons_zero, List.set_cons_succ])
    refine wpAnyH_take (i := 8) (v := ?_) (by simp only [List.getElem?_toArray, List.getElem?_cons_succ, List.getElem?_cons_zero] <;> rfl) (by kernel_rfl) (by kernel_rfl) (by kernel_rfl) (by exact fun _ _ _ h => h) (Or.inl ⟨by rfl, ?_⟩) hHeld ?_
    rotate_left
    · intro w hSw; (try dsimp only at hSw); go_simp; (try with_reducible rfl)
    (try simp only [Act.put, List.setIfInBounds_toArray, List.set_cons_zero, List.set_cons_succ])
    refine wpAnyH_ready (rs := [0, 3]) (by kernel_rfl) (by simp) ?_
    refine AllReadyH.cons (by simp only [List.getElem?_toArray, List.getElem?_cons_zero] <;> rfl) (fun K hK => ?_) (AllReadyH.cons (by simp only [List.getElem?_toArray, List.getElem?_cons_succ, List.getElem?_cons_zero] <;> rfl) (fun K hK => ?_) AllReadyH.nil)
    · go_simp
      refine hK.out _ _ ?_ (fun hHeld => ?_)
      · exact HS.out _ (HB0.out.alloc HB0.out.size _)
      clear hK K
      (try simp only [Act.put, List.setIfInBounds_toArray, List.set_cons_zero, List.set_cons_succ])
      obtain ⟨w1, hw1⟩ : ∃ W, W = w0.alloc (.cells #[.bool false, .slice none 0 0] 47) := ⟨_, rfl⟩
      have bo1 : Below w0.heap.size w0 w1 := by rw [hw1]; exact (Below.refl _ _).alloc (Nat.le_refl _) _
      have RA := Lib.hid (show Room w1 w0.heap.size by rw [hw1]; exact room_new _)
      rw [← hw1] at hHeld ⊢
      clear hw1
      have HGA := Lib.hid (show m.heap.size ≤ w0.heap.size from HB0.out.size)
      obtain ⟨ga, hga⟩ : ∃ g, w0.heap.size = g := ⟨_, rfl⟩
      rw [hga] at RA HGA
      (try rw [hga])
      have HB1 := Lib.hid (HB0.out.trans (bo1.mono HB0.out.size))
      clear bo1 hga
      refine wpAnyH_ready (rs := [3]) (by kernel_rfl) (by simp) ?_
      refine AllReadyH.cons (by simp only [List.getElem?_toArray, List.getElem?_cons_succ, List.getElem?_cons_zero] <;> rfl) (fun K hK => ?_) AllReadyH.nil
      go_simp
      go_at_call 20
      refine (H1.out _).mono ?_
      rintro e w2 ⟨g1, hg2, rfl, hb2, hi2⟩
      have I1 := Lib.hid hi2
      replace RA := Lib.hid (RA.out.below hb2)
      have HB2 := Lib.hid (HB1.out.trans (hb2.mono HB1.out.size))
      clear hb2 hi2 hg2
      go_wp2_with fail
      refine hK.out _ _ ?_ (fun hHeld => ?_)
      · exact HS.out _ HB2.out
      clear hK K
      (try simp only [Act.put, List.setIfInBounds_toArray, List.set_cons_zero, List.set_cons_succ])
      refine wpAnyH_ready (rs := [9]) (by kernel_rfl) (by simp) ?_
      refine AllReadyH.cons (by simp only [List.getElem?_toArray, List.getElem?_cons_succ, List.getElem?_cons_zero] <;> rfl) (fun K hK => ?_) AllReadyH.nil
      go_simp
      go_at_call 20
      refine (H2.out _).mono ?_
      rintro e w3 ⟨g2, hg3, rfl, hb3, hi3⟩
      have I2 := Lib.hid hi3
      replace RA := Lib.hid (RA.out.below hb3)
      replace I1 := Lib.hid (I1.out.below hb3)
      have HB3 := Lib.hid (HB2.out.trans (hb3.mono HB2.out.size))
      clear hb3 hi3 hg3
      go_wp2_with fail
      refine hK.out _ _ ?_ (fun hHeld => ?_)
      · exact HS.out _ HB3.out
      clear hK K
      (try simp only [Act.put, List.setIfInBounds_toArray, List.set_cons_zero, List.set_cons_succ])
      refine wpAnyH_ready (rs := [10]) (by kernel_rfl) (by simp) ?_
      refine AllReadyH.cons (by simp only [List.getElem?_toArray, List.getElem?_cons_succ, List.getElem?_cons_zero] <;> rfl) (fun K hK => ?_) AllReadyH.nil
      go_simp
      go_at_call 19
      refine (mul_int ga g1 g2 b.rate D _ RA.out I1.out I2.out HFM.out).mono ?_
      rintro e w4 ⟨rfl, hgr, hi4⟩
      have HB4 := Lib.hid (below_of_grown HB3.out hgr HGA.out)
      have I4 := Lib.hid hi4
      clear hgr hi4
      go_wp2_with fail
      refine hK.out _ _ ?_ (fun hHeld => ?_)
      · exact HS.out _ HB4.out
      clear hK K
      (try simp only [Act.put, List.setIfInBounds_toArray, List.set_cons_zero, List.set_cons_succ])
      refine wpAnyH_take (i := 11) (v := ?_) (by simp only [List.getElem?_toArray, List.getElem?_cons_succ, List.getElem?_cons_zero] <;> rfl) (by kernel_rfl) (by kernel_rfl) (by kernel_rfl) (by exact fun _ _ _ h => h) (Or.inl ⟨by rfl, ?_⟩) hHeld ?_
      rotate_left
      · intro w hSw; (try dsimp only at hSw); go_simp; (try with_reducible rfl)
      (try simp only [Act.put, List.setIfInBounds_toArray, List.set_cons_zero, List.set_cons_succ])
      refine wpAnyH_done (by kernel_rfl) ?_ _
      go_wp2_with fail
      go_meet
      exact Lib.hid ⟨ga, rfl, I4.out, HGA.out, HB4.out⟩
    · go_simp
      go_at_call 20
      refine (H1.out _).mono ?_
      rintro e w1 ⟨g1, hg1, rfl, hb1, hi1⟩
      have I1 := Lib.hid hi1
      have HB1 := Lib.hid (HB0.out.trans (hb1.mono HB0.out.size))
      clear hb1 hi1 hg1
      go_wp2_with fail
      refine hK.out _ _ ?_ (fun hHeld => ?_)
      · exact HS.out _ HB1.out
      clear hK K
      (try simp only [Act.put, List.setIfInBounds_toArray, List.set_cons_zero, List.set_cons_succ])
      refine wpAnyH_ready (rs := [0, 9]) (by kernel_rfl) (by simp) ?_
      refine AllReadyH.cons (by simp only [List.getElem?_toArray, List.getElem?_cons_zero] <;> rfl) (fun K hK => ?_) (AllReadyH.cons (by simp only [List.getElem?_toArray, List.getElem?_cons_succ, List.getElem?_cons_zero] <;> rfl) (fun K hK => ?_) AllReadyH.nil)
      · go_simp
        refine hK.out _ _ ?_ (fun hHeld => ?_)
        · exact HS.out _ (HB1.out.alloc HB1.out.size _)
        clear hK K
        (try simp only [Act.put, List.setIfInBounds_toArray, List.set_cons_zero, List.set_cons_succ])
        obtain ⟨w2, hw2⟩ : ∃ W, W = w1.alloc (.cells #[.bool false, .slice none 0 0] 47) := ⟨_, rfl⟩
        have bo2 : Below w1.heap.size w1 w2 := by rw [hw2]; exact (Below.refl _ _).alloc (Nat.le_refl _) _
        have RA := Lib.hid (show Room w2 w1.heap.size by rw [hw2]; exact room_new _)
        rw [← hw2] at hHeld ⊢
        clear hw2
        have HGA := Lib.hid (show m.heap.size ≤ w1.heap.size from HB1.out.size)
        obtain ⟨ga, hga⟩ : ∃ g, w1.heap.size = g := ⟨_, rfl⟩
        rw [hga] at RA HGA
        (try rw [hga])
        replace I1 := Lib.hid (I1.out.below bo2)
        have HB2 := Lib.hid (HB1.out.trans (bo2.mono HB1.out.size))
        clear bo2 hga
        refine wpAnyH_ready (rs := [9]) (by kernel_rfl) (by simp) ?_
        refine AllReadyH.cons (by simp only [List.getElem?_toArray, List.getElem?_cons_succ, List.getElem?_cons_zero] <;> rfl) (fun K hK => ?_) AllReadyH.nil
        go_simp
        go_at_call 20
        refine (H2.out _).mono ?_
        rintro e w3 ⟨g2, hg3, rfl, hb3, hi3⟩
        have I2 := Lib.hid hi3
        replace RA := Lib.hid (RA.out.below hb3)
        replace I1 := Lib.hid (I1.out.below hb3)
        have HB3 := Lib.hid (HB2.out.trans (hb3.mono HB2.out.size))
        clear hb3 hi3 hg3
        go_wp2_with fail
        refine hK.out _ _ ?_ (fun hHeld => ?_)
        · exact HS.out _ HB3.out
        clear hK K
        (try simp only [Act.put, List.setIfInBounds_toArray, List.set_cons_zero, List.set_cons_succ])
        refine wpAnyH_ready (rs := [10]) (by kernel_rfl) (by simp) ?_
        refine AllReadyH.cons (by simp only [List.getElem?_toArray, List.getElem?_cons_succ, List.getElem?_cons_zero] <;> rfl) (fun K hK => ?_) AllReadyH.nil
        go_simp
        go_at_call 19
        refine (mul_int ga g1 g2 b.rate D _ RA.out I1.out I2.out HFM.out).mono ?_
        rintro e w4 ⟨rfl, hgr, hi4⟩
        have HB4 := Lib.hid (below_of_grown HB3.out hgr HGA.out)
        have I4 := Lib.hid hi4
        clear hgr hi4
        go_wp2_with fail
        refine hK.out _ _ ?_ (fun hHeld => ?_)
        · exact HS.out _ HB4.out
        clear hK K
        (try simp only [Act.put, List.setIfInBounds_toArray, List.set_cons_zero, List.set_cons_succ])
        refine wpAnyH_take (i := 11) (v := ?_) (by simp only [List.getElem?_toArray, List.getElem?_cons_succ, List.getElem?_cons_zero] <;> rfl) (by kernel_rfl) (by kernel_rfl) (by kernel_rfl) (by exact fun _ _ _ h => h) (Or.inl ⟨by rfl, ?_⟩) hHeld ?_
        rotate_left
        · intro w hSw; (try dsimp only at hSw); go_simp; (try with_reducible rfl)
        (try simp only [Act.put, List.setIfInBounds_toArray, List.set_cons_zero, List.set_cons_succ])
        refine wpAnyH_done (by kernel_rfl) ?_ _
        go_wp2_with fail
        go_meet
        exact Lib.hid ⟨ga, rfl, I4.out, HGA.out, HB4.out⟩
      · go_simp
        go_at_call 20
        refine (H2.out _).mono ?_
        rintro e w2 ⟨g2, hg2, rfl, hb2, hi2⟩
        have I2 := Lib.hid hi2
        replace I1 := Lib.hid (I1.out.below hb2)
        have HB2 := Lib.hid (HB1.out.trans (hb2.mono HB1.out.size))
        clear hb2 hi2 hg2
        go_wp2_with fail
        refine hK.out _ _ ?_ (fun hHeld => ?_)
        · exact HS.out _ HB2.out
        clear hK K
        (try simp only [Act.put, List.setIfInBounds_toArray, List.set_cons_zero, List.set_cons_succ])
        refine wpAnyH_ready (rs := [0]) (by kernel_rfl) (by simp) ?_
        refine AllReadyH.cons (by simp only [List.getElem?_toArray, List.getElem?_cons_zero] <;> rfl) (fun K hK => ?_) AllReadyH.nil
        go_simp
        refine hK.out _ _ ?_ (fun hHeld => ?_)
        · exact HS.out _ (HB2.out.alloc HB2.out.size _)
        clear hK K
        (try simp only [Act.put, List.setIfInBounds_toArray, List.set_cons_zero, List.set_cons_succ])
        obtain ⟨w3, hw3⟩ : ∃ W, W = w2.alloc (.cells #[.bool false, .slice none 0 0] 47) := ⟨_, rfl⟩
        have bo3 : Below w2.heap.size w2 w3 := by rw [hw3]; exact (Below.refl _ _).alloc (Nat.le_refl _) _
        have RA := Lib.hid (show Room w3 w2.heap.size by rw [hw3]; exact room_new _)
        rw [← hw3] at hHeld ⊢
        clear hw3
        have HGA := Lib.hid (show m.heap.size ≤ w2.heap.size from HB2.out.size)
        obtain ⟨ga, hga⟩ : ∃ g, w2.heap.size = g := ⟨_, rfl⟩
        rw [hga] at RA HGA
        (try rw [hga])
        replace I1 := Lib.hid (I1.out.below bo3)
        replace I2 := Lib.hid (I2.out.below bo3)
        have HB3 := Lib.hid (HB2.out.trans (bo3.mono HB2.out.size))
        clear bo3 hga
        refine wpAnyH_ready (rs := [10]) (by kernel_rfl) (by simp) ?_
        refine AllReadyH.cons (by simp only [List.getElem?_toArray, List.getElem?_cons_succ, List.getElem?_cons_zero] <;> rfl) (fun K hK => ?_) AllReadyH.nil
        go_simp
        go_at_call 19
        refine (mul_int ga g1 g2 b.rate D _ RA.out I1.out I2.out HFM.out).mono ?_
        rintro e w4 ⟨rfl, hgr, hi4⟩
        have HB4 := Lib.hid (below_of_grown HB3.out hgr HGA.out)
        have I4 := Lib.hid hi4
        clear hgr hi4
        go_wp2_with fail
        refine hK.out _ _ ?_ (fun hHeld => ?_)
        · exact HS.out _ HB4.out
        clear hK K
        (try simp only [Act.put, List.setIfInBounds_toArray, List.set_cons_zero, List.set_cons_succ])
        refine wpAnyH_take (i := 11) (v := ?_) (by simp only [List.getElem?_toArray, List.getElem?_cons_succ, List.getElem?_cons_zero] <;> rfl) (by kernel_rfl) (by kernel_rfl) (by kernel_rfl) (by exact fun _ _ _ h => h) (Or.inl ⟨by rfl, ?_⟩) hHeld ?_
        rotate_left
        · intro w hSw; (try dsimp only at hSw); go_simp; (try with_reducible rfl)
        (try simp only [Act.put, List.setIfInBounds_toArray, List.set_cons_zero, List.set_cons_succ])
        refine wpAnyH_done (by kernel_rfl) ?_ _
        go_wp2_with fail
        go_meet
        exact Lib.hid ⟨ga, rfl, I4.out, HGA.out, HB4.out⟩
  case rest =>
    obtain ⟨g, rfl, hi, hg, hb⟩ := hcut.out
    have HX2 := Lib.hid (HX1.out.later hb)
    rw [HVE.out] at hi
    have HI := Lib.hid hi
    clear hcut hi hg hb HX1 HS H1 H2 HFM e1 HVE
    obtain ⟨hv, p1, p2, p3, p4, p5, p6, p7, p8⟩ := HP.out
    go_wp2_with fail
    refine (H4.out _).mono ?_
    rintro e wb ⟨gl, hgl, rfl, hb, hil⟩
    have HX3 := Lib.hid (HX2.out.later hb)
    have HIa := Lib.hid (And.intro (HI.out.below hb) hil)
    clear HX2 HI hb hil hgl H4
    go_wp2_with fail
    refine (cmp_int g gl V 4194304 _ HIa.out.1 HIa.out.2).mono ?_
    rintro e wd ⟨rfl, kk, rfl⟩
    have HX4 := Lib.hid (HX3.out.later (below_drewN (Below.refl _ _) kk))
    have HId := Lib.hid (HIa.out.1.drewN kk)
    clear HX3 HIa
    generalize wb.drewN kk = we at *
    have HJ := Lib.hid (int64_any g V we HId.out HN.out)
    have hc : cmpI V 4194304 = -1 := by unfold cmpI; rw [if_pos (by omega)]
    rw [hc]
    clear hc HId HN
    go_wp2_with fail
    refine HJ.out.mono ?_
    rintro e wf ⟨rfl, rfl⟩
    clear HJ
    obtain ⟨c0, c1, c2, c3, c4, c5⟩ := HX4.out.first.cells
    have hlt := HX4.out.first.lt
    have bo : Below we.heap.size we (we.alloc (.cells #[.pointer (some ⟨w.heap.size, 3, none⟩), .int .i64 b.burst, .pointer (some ⟨w.heap.size, 4, none⟩), .int .i64 b.exc] 53)) := (Below.refl _ _).alloc (Nat.le_refl _) _
    have HT := Lib.hid (And.intro (HX4.out.later bo) (RowAt.new (b := b) HX4.out))
    clear bo HX4
    go_upto_region 12 with fail
    clear c0 c1 c2 c3 c4 c5 hlt
    generalize we.alloc (.cells #[.pointer (some ⟨w.heap.size, 3, none⟩), .int .i64 b.burst, .pointer (some ⟨w.heap.size, 4, none⟩), .int .i64 b.exc] 53) = wl at *
    generalize we.heap.size = q at *
    go_loopg [10, 74] 2 (fun k c i wr => (k = 2 ∧ c = .int .i64 V ∧ i = .int .i64 0 ∧ Hid (Box3 w wr b t n ∧ RowAt w wr b q)) ∨ (k = 1 ∧ c = .int .i64 O ∧ i = .int .i64 1 ∧ Hid (Box3 w wr { b with fst := F } t n ∧ RowAt w wr b q)) ∨ (k = 0 ∧ c = .int .i64 O2 ∧ i = .int .i64 2 ∧ Hid (Box3 w wr { { b with fst := F } with snd := S } t n ∧ RowAt w wr b q)))
    case atStart => exact .inl ⟨rfl, rfl, rfl, HT⟩
    case round =>
      clear HT
      rcases hrel with ⟨rfl, rfl, rfl, HT⟩ | ⟨rfl, rfl, rfl, HT⟩ | ⟨rfl, rfl, rfl, HT⟩
      · obtain ⟨q0, q1, q2, q3⟩ := HT.out.2.cells
        have bo : Below wr.heap.size wr (wr.alloc (.cells #[.pointer (some ⟨w.heap.size, 3, none⟩), .int .i64 b.burst] 53)) := (Below.refl _ _).alloc (Nat.le_refl _) _
        have h1 : OneAt (wr.alloc (.cells #[.pointer (some ⟨w.heap.size, 3, none⟩), .int .i64 b.burst] 53)) wr.heap.size (.pointer (some ⟨w.heap.size, 3, none⟩)) b.burst := heap_alloc_new wr _
        have HT1 := Lib.hid (And.intro (HT.out.1.later bo) (And.intro (HT.out.2.later bo) h1))
        clear bo h1 HT
        go_upto_region 14 with fail
        clear q0 q1 q2 q3
        generalize wr.alloc (.cells #[.pointer (some ⟨w.heap.size, 3, none⟩), .int .i64 b.burst] 53) = wa at *
        generalize wr.heap.size = p at *
        have HS : Hid (∀ W, Below wa.heap.size wa W → (fun W : World => (W.cell? ⟨p, 0, none⟩ = some (.pointer (some ⟨w.heap.size, 3, none⟩)) ∧ W.cell? ⟨p, 1, none⟩ = some (.int .i64 b.burst)) ∧ W.cell? ⟨w.heap.size, 3, none⟩ = some (.int .i64 b.fst)) W) := Lib.hid (fun W hW => ⟨(HT1.out.2.2.later hW).cells, (HT1.out.1.later hW).first.cells.2.2.2.1⟩)
        refine wp_region_held_drew (S := (fun W : World => (W.cell? ⟨p, 0, none⟩ = some (.pointer (some ⟨w.heap.size, 3, none⟩)) ∧ W.cell? ⟨p, 1, none⟩ = some (.int .i64 b.burst)) ∧ W.cell? ⟨w.heap.size, 3, none⟩ = some (.int .i64 b.fst))) (by kernel_rfl) (HS.out _ (Below.refl _ _).drew) (fun hHeld => ?_)
        obtain ⟨w0, hw0⟩ : ∃ W0, W0 = wa.drew := ⟨_, rfl⟩
        have HB0 : Hid (Below wa.heap.size wa w0) := Lib.hid (by rw [hw0]; exact (Below.refl _ _).drew)
        rw [← hw0] at hHeld ⊢
        clear hw0
        refine wpAnyH_take (i := 0) (v := ?_) (by simp only [List.getElem?_toArray, List.getElem?_cons_zero] <;> rfl) (by kernel_rfl) (by kernel_rfl) (by kernel_rfl) (by exact fun _ _ _ h => h) (Or.inl ⟨by rfl, ?_⟩) hHeld ?_
        rotate_left
        · intro w hSw; (try dsimp only at hSw); go_simp; (try with_reducible rfl)
        (try simp only [Act.put, List.setIfInBounds_toArray, List.set_cons_zero, List.set_cons_succ])
        refine wpAnyH_take (i := 1) (v := ?_) (by simp only [List.getElem?_toArray, List.getElem?_cons_succ, List.getElem?_cons_zero] <;> rfl) (by kernel_rfl) (by kernel_rfl) (by kernel_rfl) (by exact fun _ _ _ h => h) (Or.inl ⟨by rfl, ?_⟩) hHeld ?_
        rotate_left
        · intro w hSw; (try dsimp only at hSw); go_simp; (try with_reducible rfl)
        (try simp only [Act.put, List.setIfInBounds_toArray, List.set_cons_zero, List.set_cons_succ])
        refine wpAnyH_take (i := 2) (v := ?_) (by simp only [List.getElem?_toArray, List.getElem?_cons_succ, List.getElem?_cons_zero] <;> rfl) (by kernel_rfl) (by kernel_rfl) (by kernel_rfl) (by exact fun _ _ _ h => h) (Or.inl ⟨by rfl, ?_⟩) hHeld ?_
        rotate_left
        · intro w hSw; (try dsimp only at hSw); go_simp; (try with_reducible rfl)
        (try simp only [Act.put, List.setIfInBounds_toArray, List.set_cons_zero, List.set_cons_succ])
        refine wpAnyH_take (i := 3) (v := ?_) (by simp only [List.getElem?_toArray, List.getElem?_cons_succ, List.getElem?_cons_zero] <;> rfl) (by kernel_rfl) (by kernel_rfl) (by kernel_rfl) (by exact fun _ _ _ h => h) (Or.inl ⟨by rfl, ?_⟩) hHeld ?_
        rotate_left
        · intro w hSw; (try dsimp only at hSw); go_simp; (try with_reducible rfl)
        (try simp only [Act.put, List.setIfInBounds_toArray, List.set_cons_zero, List.set_cons_succ])
        refine wpAnyH_take (i := 4) (v := ?_) (by simp only [List.getElem?_toArray, List.getElem?_cons_succ, List.getElem?_cons_zero] <;> rfl) (by kernel_rfl) (by kernel_rfl) (by kernel_rfl) (by exact fun _ _ _ h => h) (Or.inl ⟨by rfl, ?_⟩) hHeld ?_
        rotate_left
        · intro w hSw; (try dsimp only at hSw); go_simp; (try with_reducible rfl)
        (try simp only [Act.put, List.setIfInBounds_toArray, List.set_cons_zero, List.set_cons_succ])
        refine wpAnyH_take (i := 5) (v := ?_) (by simp only [List.getElem?_toArray, List.getElem?_cons_succ, List.getElem?_cons_zero] <;> rfl) (by kernel_rfl) (by kernel_rfl) (by kernel_rfl) (by exact fun _ _ _ h => h) (Or.inl ⟨by rfl, ?_⟩) hHeld ?_
        rotate_left
        · intro w hSw; (try dsimp only at hSw); go_simp; (try with_reducible rfl)
        (try simp only [Act.put, List.setIfInBounds_toArray, List.set_cons_zero, List.set_cons_succ])
        refine wpAnyH_take (i := 6) (v := ?_) (by simp only [List.getElem?_toArray, List.getElem?_cons_succ, List.getElem?_cons_zero] <;> rfl) (by kernel_rfl) (by kernel_rfl) (by kernel_rfl) (by exact fun _ _ _ h => h) (Or.inl ⟨by rfl, ?_⟩) hHeld ?_
        rotate_left
        · intro w hSw; (try dsimp only at hSw); go_simp; (try with_reducible rfl)
        (try simp only [Act.put, List.setIfInBounds_toArray, List.set_cons_zero, List.set_cons_succ])
        refine wpAnyH_take (i := 7) (v := ?_) (by simp only [List.getElem?_toArray, List.getElem?_cons_succ, List.getElem?_cons_zero] <;> rfl) (by kernel_rfl) (by kernel_rfl) (by kernel_rfl) (by exact fun _ _ _ h => h) (Or.inl ⟨by rfl, ?_⟩) hHeld ?_
        rotate_left
        · intro w hSw; (try dsimp only at hSw); go_simp; (try with_reducible rfl)
        (try simp only [Act.put, List.setIfInBounds_toArray, List.set_cons_zero, List.set_cons_succ])
        refine wpAnyH_ready (rs := [8]) (by kernel_rfl) (by simp) ?_
        refine AllReadyH.cons (by simp only [List.getElem?_toArray, List.getElem?_cons_succ, List.getElem?_cons_zero] <;> rfl) (fun K hK => ?_) AllReadyH.nil
        go_simp
        refine hK.out _ _ ?_ (fun hHeld => ?_)
        · exact HS.out _ HB0.out
        clear hK K
        (try simp only [Act.put, List.setIfInBounds_toArray, List.set_cons_zero, List.set_cons_succ])
        refine wpAnyH_take (i := 9) (v := ?_) (by simp only [List.getElem?_toArray, List.getElem?_cons_succ, List.getElem?_cons_zero] <;> rfl) (by kernel_rfl) (by kernel_rfl) (by kernel_rfl) (by exact fun _ _ _ h => h) (Or.inl ⟨by rfl, ?_⟩) hHeld ?_
        rotate_left
        · intro w hSw; (try dsimp only at hSw); go_simp; (try with_reducible rfl)
        (try simp only [Act.put, List.setIfInBounds_toArray, List.set_cons_zero, List.set_cons_succ])
        refine wpAnyH_done (by kernel_rfl) ?_ _
        have HT2 := Lib.hid (And.intro (HT1.out.1.later HB0.out) (And.intro (HT1.out.2.1.later HB0.out) (HT1.out.2.2.later HB0.out)))
        clear hHeld HS HT1 HB0
        have hc := HT2.out.1.first.cells
        (try dsimp only at hc)
        obtain ⟨c0, c1, c2, c3, c4, c5⟩ := hc
        obtain ⟨d0, d1⟩ := HT2.out.2.2.cells
        have f3 := HT2.out.1.first.frozen 3
        have hlt := HT2.out.1.first.lt
        have HT3 := Lib.hid (And.intro (HT2.out.1.fst F) (HT2.out.2.1.put 3 (.int .i64 F)))
        clear HT2
        go_upto_region 16 with fail
        clear c0 c1 c2 c3 c4 c5 d0 d1 f3 hlt
        generalize w0.setCell ⟨w.heap.size, 3, none⟩ (.int .i64 F) = w5 at *
        go_wp2_with fail
        go_roundg 1
        case measure => omega
        case rel => exact .inr (.inl ⟨rfl, by first | rfl | rw [p4], rfl, HT3⟩)
      · obtain ⟨q0, q1, q2, q3⟩ := HT.out.2.cells
        have bo : Below wr.heap.size wr (wr.alloc (.cells #[.pointer (some ⟨w.heap.size, 4, none⟩), .int .i64 b.exc] 53)) := (Below.refl _ _).alloc (Nat.le_refl _) _
        have h1 : OneAt (wr.alloc (.cells #[.pointer (some ⟨w.heap.size, 4, none⟩), .int .i64 b.exc] 53)) wr.heap.size (.pointer (some ⟨w.heap.size, 4, none⟩)) b.exc := heap_alloc_new wr _
        have HT1 := Lib.hid (And.intro (HT.out.1.later bo) (And.intro (HT.out.2.later bo) h1))
        clear bo h1 HT
        go_upto_region 14 with fail
        clear q0 q1 q2 q3
        generalize wr.alloc (.cells #[.pointer (some ⟨w.heap.size, 4, none⟩), .int .i64 b.exc] 53) = wa at *
        generalize wr.heap.size = p at *
        have HS : Hid (∀ W, Below wa.heap.size wa W → (fun W : World => (W.cell? ⟨p, 0, none⟩ = some (.pointer (some ⟨w.heap.size, 4, none⟩)) ∧ W.cell? ⟨p, 1, none⟩ = some (.int .i64 b.exc)) ∧ W.cell? ⟨w.heap.size, 4, none⟩ = some (.int .i64 b.snd)) W) := Lib.hid (fun W hW => ⟨(HT1.out.2.2.later hW).cells, (HT1.out.1.later hW).first.cells.2.2.2.2.1⟩)
        refine wp_region_held_drew (S := (fun W : World => (W.cell? ⟨p, 0, none⟩ = some (.pointer (some ⟨w.heap.size, 4, none⟩)) ∧ W.cell? ⟨p, 1, none⟩ = some (.int .i64 b.exc)) ∧ W.cell? ⟨w.heap.size, 4, none⟩ = some (.int .i64 b.snd))) (by kernel_rfl) (HS.out _ (Below.refl _ _).drew) (fun hHeld => ?_)
        obtain ⟨w0, hw0⟩ : ∃ W0, W0 = wa.drew := ⟨_, rfl⟩
        have HB0 : Hid (Below wa.heap.size wa w0) := Lib.hid (by rw [hw0]; exact (Below.refl _ _).drew)
        rw [← hw0] at hHeld ⊢
        clear hw0
        refine wpAnyH_take (i := 0) (v := ?_) (by simp only [List.getElem?_toArray, List.getElem?_cons_zero] <;> rfl) (by kernel_rfl) (by kernel_rfl) (by kernel_rfl) (by exact fun _ _ _ h => h) (Or.inl ⟨by rfl, ?_⟩) hHeld ?_
        rotate_left
        · intro w hSw; (try dsimp only at hSw); go_simp; (try with_reducible rfl)
        (try simp only [Act.put, List.setIfInBounds_toArray, List.set_cons_zero, List.set_cons_succ])
        refine wpAnyH_take (i := 1) (v := ?_) (by simp only [List.getElem?_toArray, List.getElem?_cons_succ, List.getElem?_cons_zero] <;> rfl) (by kernel_rfl) (by kernel_rfl) (by kernel_rfl) (by exact fun _ _ _ h => h) (Or.inl ⟨by rfl, ?_⟩) hHeld ?_
        rotate_left
        · intro w hSw; (try dsimp only at hSw); go_simp; (try with_reducible rfl)
        (try simp only [Act.put, List.setIfInBounds_toArray, List.set_cons_zero, List.set_cons_succ])
        refine wpAnyH_take (i := 2) (v := ?_) (by simp only [List.getElem?_toArray, List.getElem?_cons_succ, List.getElem?_cons_zero] <;> rfl) (by kernel_rfl) (by kernel_rfl) (by kernel_rfl) (by exact fun _ _ _ h => h) (Or.inl ⟨by rfl, ?_⟩) hHeld ?_
        rotate_left
        · intro w hSw; (try dsimp only at hSw); go_simp; (try with_reducible rfl)
        (try simp only [Act.put, List.setIfInBounds_toArray, List.set_cons_zero, List.set_cons_succ])
        refine wpAnyH_take (i := 3) (v := ?_) (by simp only [List.getElem?_toArray, List.getElem?_cons_succ, List.getElem?_cons_zero] <;> rfl) (by kernel_rfl) (by kernel_rfl) (by kernel_rfl) (by exact fun _ _ _ h => h) (Or.inl ⟨by rfl, ?_⟩) hHeld ?_
        rotate_left
        · intro w hSw; (try dsimp only at hSw); go_simp; (try with_reducible rfl)
        (try simp only [Act.put, List.setIfInBounds_toArray, List.set_cons_zero, List.set_cons_succ])
        refine wpAnyH_take (i := 4) (v := ?_) (by simp only [List.getElem?_toArray, List.getElem?_cons_succ, List.getElem?_cons_zero] <;> rfl) (by kernel_rfl) (by kernel_rfl) (by kernel_rfl) (by exact fun _ _ _ h => h) (Or.inl ⟨by rfl, ?_⟩) hHeld ?_
        rotate_left
        · intro w hSw; (try dsimp only at hSw); go_simp; (try with_reducible rfl)
        (try simp only [Act.put, List.setIfInBounds_toArray, List.set_cons_zero, List.set_cons_succ])
        refine wpAnyH_take (i := 5) (v := ?_) (by simp only [List.getElem?_toArray, List.getElem?_cons_succ, List.getElem?_cons_zero] <;> rfl) (by kernel_rfl) (by kernel_rfl) (by kernel_rfl) (by exact fun _ _ _ h => h) (Or.inl ⟨by rfl, ?_⟩) hHeld ?_
        rotate_left
        · intro w hSw; (try dsimp only at hSw); go_simp; (try with_reducible rfl)
        (try simp only [Act.put, List.setIfInBounds_toArray, List.set_cons_zero, List.set_cons_succ])
        refine wpAnyH_take (i := 6) (v := ?_) (by simp only [List.getElem?_toArray, List.getElem?_cons_succ, List.getElem?_cons_zero] <;> rfl) (by kernel_rfl) (by kernel_rfl) (by kernel_rfl) (by exact fun _ _ _ h => h) (Or.inl ⟨by rfl, ?_⟩) hHeld ?_
        rotate_left
        · intro w hSw; (try dsimp only at hSw); go_simp; (try with_reducible rfl)
        (try simp only [Act.put, List.setIfInBounds_toArray, List.set_cons_zero, List.set_cons_succ])
        refine wpAnyH_take (i := 7) (v := ?_) (by simp only [List.getElem?_toArray, List.getElem?_cons_succ, List.getElem?_cons_zero] <;> rfl) (by kernel_rfl) (by kernel_rfl) (by kernel_rfl) (by exact fun _ _ _ h => h) (Or.inl ⟨by rfl, ?_⟩) hHeld ?_
        rotate_left
        · intro w hSw; (try dsimp only at hSw); go_simp; (try with_reducible rfl)
        (try simp only [Act.put, List.setIfInBounds_toArray, List.set_cons_zero, List.set_cons_succ])
        refine wpAnyH_ready (rs := [8]) (by kernel_rfl) (by simp) ?_
        refine AllReadyH.cons (by simp only [List.getElem?_toArray, List.getElem?_cons_succ, List.getElem?_cons_zero] <;> rfl) (fun K hK => ?_) AllReadyH.nil
        go_simp
        refine hK.out _ _ ?_ (fun hHeld => ?_)
        · exact HS.out _ HB0.out
        clear hK K
        (try simp only [Act.put, List.setIfInBounds_toArray, List.set_cons_zero, List.set_cons_succ])
        refine wpAnyH_take (i := 9) (v := ?_) (by simp only [List.getElem?_toArray, List.getElem?_cons_succ, List.getElem?_cons_zero] <;> rfl) (by kernel_rfl) (by kernel_rfl) (by kernel_rfl) (by exact fun _ _ _ h => h) (Or.inl ⟨by rfl, ?_⟩) hHeld ?_
        rotate_left
        · intro w hSw; (try dsimp only at hSw); go_simp; (try with_reducible rfl)
        (try simp only [Act.put, List.setIfInBounds_toArray, List.set_cons_zero, List.set_cons_succ])
        refine wpAnyH_done (by kernel_rfl) ?_ _
        have HT2 := Lib.hid (And.intro (HT1.out.1.later HB0.out) (And.intro (HT1.out.2.1.later HB0.out) (HT1.out.2.2.later HB0.out)))
        clear hHeld HS HT1 HB0
        have hc := HT2.out.1.first.cells
        (try dsimp only at hc)
        obtain ⟨c0, c1, c2, c3, c4, c5⟩ := hc
        obtain ⟨d0, d1⟩ := HT2.out.2.2.cells
        have f3 := HT2.out.1.first.frozen 4
        have hlt := HT2.out.1.first.lt
        have HT3 := Lib.hid (And.intro (HT2.out.1.snd S) (HT2.out.2.1.put 4 (.int .i64 S)))
        clear HT2
        go_upto_region 16 with fail
        clear c0 c1 c2 c3 c4 c5 d0 d1 f3 hlt
        generalize w0.setCell ⟨w.heap.size, 4, none⟩ (.int .i64 S) = w5 at *
        go_wp2_with fail
        go_roundg 0
        case measure => omega
        case rel => exact .inr (.inr ⟨rfl, by first | rfl | rw [p8], rfl, HT3⟩)
      · have HX5 := Lib.hid (show Box3 w (wr.setCell ⟨w.heap.size, 5, none⟩ (.int .i64 t)) bt t n by rw [← HBT.out]; exact HT.out.1.tm t)
        have hc := HT.out.1.first.cells
        (try dsimp only at hc)
        obtain ⟨c0, c1, c2, c3, c4, c5⟩ := hc
        obtain ⟨s0, s1⟩ := HT.out.1.shot.cells
        have f5 := HT.out.1.first.frozen 5
        have hlt := HT.out.1.first.lt
        go_upto_region 19 with fail
        clear c0 c1 c2 c3 c4 c5 s0 s1 f5 hlt HT hv p1 p2 p3 p4 p5 p6 p7 p8 HP HBT
        generalize wr.setCell ⟨w.heap.size, 5, none⟩ (.int .i64 t) = w6 at *
        obtain ⟨⟨c0, c1, c2, c3, c4, c5⟩, s0, s1⟩ := HX5.out.cells
        have f3 := HX5.out.first.frozen 3
        have f4 := HX5.out.first.frozen 4
        have hlt := HX5.out.first.lt
        rcases HH.out with rfl | rfl | rfl
        · by_cases p : n ≤ bt.fst
          · obtain ⟨R, e6, hR⟩ : ∃ R, wrap64 (bt.fst - n) = R ∧ bt.fst - n = R := ⟨_, w64 (by have := HOK.out.1.f0; have := HOK.out.1.f1; have := HOK.out.1.s0; have := HOK.out.1.s1; have := HOK.out.1.b1; have := HOK.out.1.e1; have := HOK.out.2; omega) (by have := HOK.out.1.f0; have := HOK.out.1.f1; have := HOK.out.1.s0; have := HOK.out.1.s1; have := HOK.out.1.b1; have := HOK.out.1.e1; have := HOK.out.2; omega), rfl⟩
            have HZ := Lib.hid (fun W hW => HG.out W hW rfl p)
            rw [hR] at HZ
            clear HG HY HD HH HOK hR
            have HX6 : Hid (Box3 w (w6.setCell ⟨w.heap.size, 3, none⟩ (.int .i64 R)) ⟨bt.rate, bt.burst, bt.exc, R, bt.snd, bt.tm⟩ t n) := Lib.hid (HX5.out.fst R)
            clear HX5
            go_upto_region 21 with fail
            clear c0 c1 c2 c3 c4 c5 s0 s1 f3 f4 hlt
            generalize w6.setCell ⟨w.heap.size, 3, none⟩ (.int .i64 R) = w7 at *
            go_wp2_with (first | (refine wpList_load_mt rfl (.tmp 3) rfl w.heap.size ⟨bt.rate, bt.burst, bt.exc, R, bt.snd, bt.tm⟩ rfl HX6.out.first ?_) | (refine wpList_store_mt rfl (.tmp 6) (.tmp 116) rfl (w.heap.size + 1 + 1) ⟨bt.rate, bt.burst, bt.exc, R, bt.snd, bt.tm⟩ Mt.zero rfl rfl HX6.out.third ?_))
            exact bodyPost_ret (results_mt3 6 7 8 rfl _ _ rfl (HX6.out.ended ⟨bt.rate, bt.burst, bt.exc, R, bt.snd, bt.tm⟩).1) rfl (HZ.out _ (HX6.out.ended ⟨bt.rate, bt.burst, bt.exc, R, bt.snd, bt.tm⟩).2)
          · by_cases p2 : n ≤ bt.snd
            · obtain ⟨R, e6, hR⟩ : ∃ R, wrap64 (bt.snd - n) = R ∧ bt.snd - n = R := ⟨_, w64 (by have := HOK.out.1.f0; have := HOK.out.1.f1; have := HOK.out.1.s0; have := HOK.out.1.s1; have := HOK.out.1.b1; have := HOK.out.1.e1; have := HOK.out.2; omega) (by have := HOK.out.1.f0; have := HOK.out.1.f1; have := HOK.out.1.s0; have := HOK.out.1.s1; have := HOK.out.1.b1; have := HOK.out.1.e1; have := HOK.out.2; omega), rfl⟩
              have HZ := Lib.hid (fun W hW => HY.out W hW (.inr (by omega)) (by decide) p2)
              rw [hR] at HZ
              clear HG HY HD HH HOK hR
              have HX6 : Hid (Box3 w (w6.setCell ⟨w.heap.size, 4, none⟩ (.int .i64 R)) ⟨bt.rate, bt.burst, bt.exc, bt.fst, R, bt.tm⟩ t n) := Lib.hid (HX5.out.snd R)
              clear HX5
              go_upto_region 24 with fail
              clear c0 c1 c2 c3 c4 c5 s0 s1 f3 f4 hlt
              generalize w6.setCell ⟨w.heap.size, 4, none⟩ (.int .i64 R) = w7 at *
              go_wp2_with (first | (refine wpList_load_mt rfl (.tmp 3) rfl w.heap.size ⟨bt.rate, bt.burst, bt.exc, bt.fst, R, bt.tm⟩ rfl HX6.out.first ?_) | (refine wpList_store_mt rfl (.tmp 6) (.tmp 132) rfl (w.heap.size + 1 + 1) ⟨bt.rate, bt.burst, bt.exc, bt.fst, R, bt.tm⟩ Mt.zero rfl rfl HX6.out.third ?_))
              exact bodyPost_ret (results_mt3 6 7 8 rfl _ _ rfl (HX6.out.ended ⟨bt.rate, bt.burst, bt.exc, bt.fst, R, bt.tm⟩).1) rfl (HZ.out _ (HX6.out.ended ⟨bt.rate, bt.burst, bt.exc, bt.fst, R, bt.tm⟩).2)
            · have HZ := Lib.hid (fun W hW => HD.out W hW (.inr (by omega)) (.inr (by omega)))
              clear HG HY HD HH HOK
              go_wp2_with (first | (refine wpList_load_mt rfl (.tmp 3) rfl w.heap.size bt rfl HX5.out.first ?_) | (refine wpList_store_mt rfl (.tmp 6) (.tmp 133) rfl (w.heap.size + 1 + 1) bt Mt.zero rfl rfl HX5.out.third ?_))
              exact bodyPost_ret (results_mt3 6 7 8 rfl _ _ rfl (HX5.out.ended bt).1) rfl (HZ.out _ (HX5.out.ended bt).2)
        · by_cases p2 : n ≤ bt.snd
          · obtain ⟨R, e6, hR⟩ : ∃ R, wrap64 (bt.snd - n) = R ∧ bt.snd - n = R := ⟨_, w64 (by have := HOK.out.1.f0; have := HOK.out.1.f1; have := HOK.out.1.s0; have := HOK.out.1.s1; have := HOK.out.1.b1; have := HOK.out.1.e1; have := HOK.out.2; omega) (by have := HOK.out.1.f0; have := HOK.out.1.f1; have := HOK.out.1.s0; have := HOK.out.1.s1; have := HOK.out.1.b1; have := HOK.out.1.e1; have := HOK.out.2; omega), rfl⟩
            have HZ := Lib.hid (fun W hW => HY.out W hW (.inl (by decide)) (by decide) p2)
            rw [hR] at HZ
            clear HG HY HD HH HOK hR
            have HX6 : Hid (Box3 w (w6.setCell ⟨w.heap.size, 4, none⟩ (.int .i64 R)) ⟨bt.rate, bt.burst, bt.exc, bt.fst, R, bt.tm⟩ t n) := Lib.hid (HX5.out.snd R)
            clear HX5
            go_upto_region 24 with fail
            clear c0 c1 c2 c3 c4 c5 s0 s1 f3 f4 hlt
            generalize w6.setCell ⟨w.heap.size, 4, none⟩ (.int .i64 R) = w7 at *
            go_wp2_with (first | (refine wpList_load_mt rfl (.tmp 3) rfl w.heap.size ⟨bt.rate, bt.burst, bt.exc, bt.fst, R, bt.tm⟩ rfl HX6.out.first ?_) | (refine wpList_store_mt rfl (.tmp 6) (.tmp 132) rfl (w.heap.size + 1 + 1) ⟨bt.rate, bt.burst, bt.exc, bt.fst, R, bt.tm⟩ Mt.zero rfl rfl HX6.out.third ?_))
            exact bodyPost_ret (results_mt3 6 7 8 rfl _ _ rfl (HX6.out.ended ⟨bt.rate, bt.burst, bt.exc, bt.fst, R, bt.tm⟩).1) rfl (HZ.out _ (HX6.out.ended ⟨bt.rate, bt.burst, bt.exc, bt.fst, R, bt.tm⟩).2)
          · have HZ := Lib.hid (fun W hW => HD.out W hW (.inl (by decide)) (.inr (by omega)))
            clear HG HY HD HH HOK
            go_wp2_with (first | (refine wpList_load_mt rfl (.tmp 3) rfl w.heap.size bt rfl HX5.out.first ?_) | (refine wpList_store_mt rfl (.tmp 6) (.tmp 133) rfl (w.heap.size + 1 + 1) bt Mt.zero rfl rfl HX5.out.third ?_))
            exact bodyPost_ret (results_mt3 6 7 8 rfl _ _ rfl (HX5.out.ended bt).1) rfl (HZ.out _ (HX5.out.ended bt).2)
        · have HZ := Lib.hid (fun W hW => HD.out W hW (.inl (by decide)) (.inl rfl))
          clear HG HY HD HH HOK
          go_wp2_with (first | (refine wpList_load_mt rfl (.tmp 3) rfl w.heap.size bt rfl HX5.out.first ?_) | (refine wpList_store_mt rfl (.tmp 6) (.tmp 133) rfl (w.heap.size + 1 + 1) bt Mt.zero rfl rfl HX5.out.third ?_))
          exact bodyPost_ret (results_mt3 6 7 8 rfl _ _ rfl (HX5.out.ended bt).1) rfl (HZ.out _ (HX5.out.ended bt).2)
end Go.Proofs.Ytnbjcahhmibmdaa
