/- The reference: ILevel. -/
import Derived.Test.YtkcfhjbppnchoaaBk9
import Derived.Test.YtkcfhjbppnchoaaBig19
import Derived.Test.YtkcfhjbppnchoaaBig22
namespace Go.Proofs.Ytkcfhjbppnchoaa
open Go.RowKit Go.Maps

theorem newInt_pos {x : Int} (h0 : 0 ≤ x) (h1 : x < 9223372036854775808) (w : World) : Calls Try.prog 24 #[.int .i64 x] w (NewInt w x) := by
  obtain ⟨n, rfl⟩ := Int.eq_ofNat_of_zero_le h0
  exact newInt_any n w (by omega)
theorem Box1.grown {w W W' : World} {b : Bk} {g : Nat} (h : Box1 w W b) (hg : W.grownBy W' (some g)) (hl : w.heap.size < g) : Box1 w W' b :=
  ⟨below_of_grown h.below hg (by omega), (hg.block _ h.first.lt (by simp; omega)).trans h.first⟩
theorem fits_small {n : Nat} (h : n < 18446744073709551616) : Fits n := Fits.of (k := 2) h (by decide)
theorem level_min (b : Bk) (t : Int) : b.level t = if 0 < cmpI (b.num * (t - b.tm) + b.lev) (b.burst * b.den) then b.burst * b.den else b.num * (t - b.tm) + b.lev := by
  unfold Bk.level cmpI
  (repeat' split) <;> omega

set_option maxRecDepth 100000 in
set_option maxHeartbeats 8000000 in
theorem level_any {b : Bk} (hok : b.Ok) {t : Int} (t0 : b.tm ≤ t) (t1 : t ≤ 1099511627776) (w : World) :
    Calls Try.prog 15 #[.agg b.cells, .int .i64 t] w fun e w' => e = .returned (.int .i64 (b.level t)) ∧ Below w.heap.size w w' := by
  have HX := Lib.hid (box1 w b)
  have hco := hok.comes t0 t1
  have hmo := hok.most
  have hl0 := hok.l0
  have hl1 := hok.l1
  have ht0 := hok.t0
  obtain ⟨D, hD⟩ : ∃ D, t - b.tm = D := ⟨_, rfl⟩
  have e1 : IntKind.i64.wrap (t - b.tm) = D := by rw [hD]; exact wrap_i64 (by omega) (by omega)
  obtain ⟨M, e2, hM⟩ : ∃ M, wrap64 (b.burst * b.den) = M ∧ b.burst * b.den = M := ⟨_, w64 (by omega) (by omega), rfl⟩
  have HL := Lib.hid (level_min b t)
  rw [hD] at hco HL
  rw [hM] at hmo HL hl1
  have H1 := Lib.hid (fun W => newInt_pos (x := b.num) hok.n0 (by have := hok.n1; omega) W)
  have H2 := Lib.hid (fun W => newInt_pos (x := D) (by omega) (by omega) W)
  have H3 := Lib.hid (fun W => newInt_pos (x := b.lev) hl0 (by omega) W)
  have H4 := Lib.hid (fun W => newInt_pos (x := M) (by omega) (by omega) W)
  have HFM : Hid (Fits (b.num * D).natAbs) := Lib.hid (fits_small (by omega))
  have HFA : Hid (Fits (b.num * D + b.lev).natAbs) := Lib.hid (fits_small (by omega))
  have HN : Hid ((b.num * D + b.lev).natAbs < 9223372036854775808 ∧ M.natAbs < 9223372036854775808) := Lib.hid ⟨by omega, by omega⟩
  clear hco hmo hl0 hl1 ht0 hD hM t0 t1
  generalize b.level t = R at *
  obtain ⟨c0, c1, c2, c3, c4⟩ := HX.out.first.cells
  unfold Bk.cells
  go_enter Try.func15, Try.ntmps15
  go_upto_region 1 with fail
  change Code.wp _ _ _ _ (one w b)
  generalize one w b = m at *
  have HS : Hid (∀ W, Below m.heap.size m W → (fun W : World => W.cell? ⟨w.heap.size, 0, none⟩ = some (.int .i64 b.num) ∧ W.cell? ⟨w.heap.size, 4, none⟩ = some (.int .i64 b.tm)) W) := Lib.hid (fun W hW => ⟨(hW.cell (p := ⟨w.heap.size, 0, none⟩) HX.out.first.lt).trans c0, (hW.cell (p := ⟨w.heap.size, 4, none⟩) HX.out.first.lt).trans c4⟩)
  clear c0 c1 c2 c3 c4
  go_cut [5] (fun v wx => Hid (∃ g, v = .pointer (some ⟨g, 0, none⟩) ∧ IntAt wx g (b.num * D) ∧ m.heap.size ≤ g ∧ Below m.heap.size m wx))
  case first =>
    refine wp_region_held_drew (S := (fun W : World => W.cell? ⟨w.heap.size, 0, none⟩ = some (.int .i64 b.num) ∧ W.cell? ⟨w.heap.size, 4, none⟩ = some (.int .i64 b.tm))) (by kernel_rfl) (HS.out _ (Below.refl _ _).drew) (fun hHeld => ?_)
    obtain ⟨w0, hw0⟩ : ∃ W0, W0 = m.drew := ⟨_, rfl⟩
    have HB0 : Hid (Below m.heap.size m w0) := Lib.hid (by rw [hw0]; exact (Below.refl _ _).drew)
    rw [← hw0] at hHeld ⊢
    clear hw0
    refine wpAnyH_take (i := 1) (v := ?_) (by simp only [List.getElem?_toArray, List.getElem?_cons_succ, List.getElem?_cons_zero] <;> rfl) (by kernel_rfl) (by kernel_rfl) (by kernel_rfl) (by exact fun _ _ _ h => h) (Or.inl ⟨by rfl, ?_⟩) hHeld ?_
    rotate_left
    · intro w hSw; (try dsimp only at hSw); go_simp; (try with_reducible rfl)
    (try simp only [Act.put, List.setIfInBounds_toArray, List.set_cons_zero, List.set_cons_succ])
    refine wpAnyH_take (i := 2) (v := ?_) (by simp only [List.getElem?_toArray, List.getElem?_cons_succ, List.getElem?_cons_zero] <;> rfl) (by kernel_rfl) (by kernel_rfl) (by kernel_rfl) (by exact fun _ _ _ h => h) (Or.inl ⟨by rfl, ?_⟩) hHeld ?_
    rotate_left
    · intro w hSw; (try dsimp only at hSw); go_simp; (try with_reducible rfl)
    (try simp only [Act.put, List.setIfInBounds_toArray, List.set_cons_zero, List.set_cons_succ])
    refine wpAnyH_take (i := 4) (v := ?_) (by simp only [List.getElem?_toArray, List.getElem?_cons_succ, List.getElem?_cons_zero] <;> rfl) (by kernel_rfl) (by kernel_rfl) (by kernel_rfl) (by exact fun _ _ _ h => h) (Or.inl ⟨by rfl, ?_⟩) hHeld ?_
    rotate_left
    · intro w hSw; (try dsimp only at hSw); go_simp; (try with_reducible rfl)
    (try simp only [Act.put, List.setIfInBounds_toArray, List.set_cons_zero, List.set_cons_succ])
    refine wpAnyH_take (i := 5) (v := ?_) (by simp only [List.getElem?_toArray, List.getElem?_cons_succ, List.getElem?_cons_zero] <;> rfl) (by kernel_rfl) (by kernel_rfl) (by kernel_rfl) (by exact fun _ _ _ h => h) (Or.inl ⟨by rfl, ?_⟩) hHeld ?_
    rotate_left
    · intro w hSw; (try dsimp only at hSw); go_simp; (try with_reducible rfl)
    (try simp only [Act.put, List.setIfInBounds_toArray, List.set_cons_zero, List.set_cons_succ])
    refine wpAnyH_take (i := 6) (v := ?_) (by simp only [List.getElem?_toArray, List.getElem?_cons_succ, List.getElem?_cons_zero] <;> rfl) (by kernel_rfl) (by kernel_rfl) (by kernel_rfl) (by exact fun _ _ _ h => h) (Or.inl ⟨by rfl, ?_⟩) hHeld ?_
    rotate_left
    · intro w hSw; (try dsimp only at hSw); go_simp; (try with_reducible rfl)
    (try simp only [Act.put, List.setIfInBounds_toArray, List.set_cons_zero, List.set_cons_succ])
    refine wpAnyH_take (i := 7) (v := ?_) (by simp only [List.getElem?_toArray, List.getElem?_cons_succ, List.getElem?_cons_zero] <;> rfl) (by kernel_rfl) (by kernel_rfl) (by kernel_rfl) (by exact fun _ _ _ h => h) (Or.inl ⟨by rfl, ?_⟩) hHeld ?_
    rotate_left
    · intro w hSw; (try dsimp only at hSw); go_simp; (try with_reducible rfl)
    (try simp only [Act.put, List.setIfInBounds_toArray, List.set_cons_zero, List.set_cons_succ])
    refine wpAnyH_ready (rs := [0, 3]) (by kernel_rfl) (by simp) ?_
    refine AllReadyH.cons (by simp only [List.getElem?_toArray, List.getElem?_cons_zero] <;> rfl) (fun K hK => ?_) (AllReadyH.cons (by simp only [List.getElem?_toArray, List.getElem?_cons_succ, List.getElem?_cons_zero] <;> rfl) (fun K hK => ?_) AllReadyH.nil)
    · go_simp
      refine hK.out _ _ ?_ (fun hHeld => ?_)
      · exact HS.out _ (HB0.out.alloc HB0.out.size _)
      clear hK K
      (try simp only [Act.put, List.setIfInBounds_toArray, List.set_cons_zero, List.set_cons_succ])
      obtain ⟨w1, hw1⟩ : ∃ W, W = w0.alloc (.cells #[.bool false, .slice none 0 0] 55) := ⟨_, rfl⟩
      have bo1 : Below w0.heap.size w0 w1 := by rw [hw1]; exact (Below.refl _ _).alloc (Nat.le_refl _) _
      have RA := Lib.hid (show Room w1 w0.heap.size by rw [hw1]; exact room_new _)
      rw [← hw1] at hHeld ⊢
      clear hw1
      have HGA := Lib.hid (show m.heap.size ≤ w0.heap.size from HB0.out.size)
      obtain ⟨ga, hga⟩ : ∃ g, w0.heap.size = g := ⟨_, rfl⟩
      rw [hga] at RA HGA
      (try rw [hga])
      have HB1 := Lib.hid (HB0.out.trans (bo1.mono HB0.out.size))
      clear bo1 hga
      refine wpAnyH_ready (rs := [3]) (by kernel_rfl) (by simp) ?_
      refine AllReadyH.cons (by simp only [List.getElem?_toArray, List.getElem?_cons_succ, List.getElem?_cons_zero] <;> rfl) (fun K hK => ?_) AllReadyH.nil
      go_simp
      go_at_call 24
      refine (H1.out _).mono ?_
      rintro e w2 ⟨g1, hg2, rfl, hb2, hi2⟩
      have I1 := Lib.hid hi2
      replace RA := Lib.hid (RA.out.below hb2)
      have HB2 := Lib.hid (HB1.out.trans (hb2.mono HB1.out.size))
      clear hb2 hi2 hg2
      go_wp2_with fail
      refine hK.out _ _ ?_ (fun hHeld => ?_)
      · exact HS.out _ HB2.out
      clear hK K
      (try simp only [Act.put, List.setIfInBounds_toArray, List.set_cons_zero, List.set_cons_succ])
      refine wpAnyH_ready (rs := [8]) (by kernel_rfl) (by simp) ?_
      refine AllReadyH.cons (by simp only [List.getElem?_toArray, List.getElem?_cons_succ, List.getElem?_cons_zero] <;> rfl) (fun K hK => ?_) AllReadyH.nil
      go_simp
      go_at_call 24
      refine (H2.out _).mono ?_
      rintro e w3 ⟨g2, hg3, rfl, hb3, hi3⟩
      have I2 := Lib.hid hi3
      replace RA := Lib.hid (RA.out.below hb3)
      replace I1 := Lib.hid (I1.out.below hb3)
      have HB3 := Lib.hid (HB2.out.trans (hb3.mono HB2.out.size))
      clear hb3 hi3 hg3
      go_wp2_with fail
      refine hK.out _ _ ?_ (fun hHeld => ?_)
      · exact HS.out _ HB3.out
      clear hK K
      (try simp only [Act.put, List.setIfInBounds_toArray, List.set_cons_zero, List.set_cons_succ])
      refine wpAnyH_ready (rs := [9]) (by kernel_rfl) (by simp) ?_
      refine AllReadyH.cons (by simp only [List.getElem?_toArray, List.getElem?_cons_succ, List.getElem?_cons_zero] <;> rfl) (fun K hK => ?_) AllReadyH.nil
      go_simp
      go_at_call 23
      refine (mul_int ga g1 g2 b.num D _ RA.out I1.out I2.out HFM.out).mono ?_
      rintro e w4 ⟨rfl, hgr, hi4⟩
      have HB4 := Lib.hid (below_of_grown HB3.out hgr HGA.out)
      have I4 := Lib.hid hi4
      clear hgr hi4
      go_wp2_with fail
      refine hK.out _ _ ?_ (fun hHeld => ?_)
      · exact HS.out _ HB4.out
      clear hK K
      (try simp only [Act.put, List.setIfInBounds_toArray, List.set_cons_zero, List.set_cons_succ])
      refine wpAnyH_take (i := 10) (v := ?_) (by simp only [List.getElem?_toArray, List.getElem?_cons_succ, List.getElem?_cons_zero] <;> rfl) (by kernel_rfl) (by kernel_rfl) (by kernel_rfl) (by exact fun _ _ _ h => h) (Or.inl ⟨by rfl, ?_⟩) hHeld ?_
      rotate_left
      · intro w hSw; (try dsimp only at hSw); go_simp; (try with_reducible rfl)
      (try simp only [Act.put, List.setIfInBounds_toArray, List.set_cons_zero, List.set_cons_succ])
      refine wpAnyH_done (by kernel_rfl) ?_ _
      go_wp2_with fail
      go_meet
      exact Lib.hid ⟨ga, rfl, I4.out, HGA.out, HB4.out⟩
    · go_simp
      go_at_call 24
      refine (H1.out _).mono ?_
      rintro e w1 ⟨g1, hg1, rfl, hb1, hi1⟩
      have I1 := Lib.hid hi1
      have HB1 := Lib.hid (HB0.out.trans (hb1.mono HB0.out.size))
      clear hb1 hi1 hg1
      go_wp2_with fail
      refine hK.out _ _ ?_ (fun hHeld => ?_)
      · exact HS.out _ HB1.out
      clear hK K
      (try simp only [Act.put, List.setIfInBounds_toArray, List.set_cons_zero, List.set_cons_succ])
      refine wpAnyH_ready (rs := [0, 8]) (by kernel_rfl) (by simp) ?_
      refine AllReadyH.cons (by simp only [List.getElem?_toArray, List.getElem?_cons_zero] <;> rfl) (fun K hK => ?_) (AllReadyH.cons (by simp only [List.getElem?_toArray, List.getElem?_cons_succ, List.getElem?_cons_zero] <;> rfl) (fun K hK => ?_) AllReadyH.nil)
      · go_simp
        refine hK.out _ _ ?_ (fun hHeld => ?_)
        · exact HS.out _ (HB1.out.alloc HB1.out.size _)
        clear hK K
        (try simp only [Act.put, List.setIfInBounds_toArray, List.set_cons_zero, List.set_cons_succ])
        obtain ⟨w2, hw2⟩ : ∃ W, W = w1.alloc (.cells #[.bool false, .slice none 0 0] 55) := ⟨_, rfl⟩
        have bo2 : Below w1.heap.size w1 w2 := by rw [hw2]; exact (Below.refl _ _).alloc (Nat.le_refl _) _
        have RA := Lib.hid (show Room w2 w1.heap.size by rw [hw2]; exact room_new _)
        rw [← hw2] at hHeld ⊢
        clear hw2
        have HGA := Lib.hid (show m.heap.size ≤ w1.heap.size from HB1.out.size)
        obtain ⟨ga, hga⟩ : ∃ g, w1.heap.size = g := ⟨_, rfl⟩
        rw [hga] at RA HGA
        (try rw [hga])
        replace I1 := Lib.hid (I1.out.below bo2)
        have HB2 := Lib.hid (HB1.out.trans (bo2.mono HB1.out.size))
        clear bo2 hga
        refine wpAnyH_ready (rs := [8]) (by kernel_rfl) (by simp) ?_
        refine AllReadyH.cons (by simp only [List.getElem?_toArray, List.getElem?_cons_succ, List.getElem?_cons_zero] <;> rfl) (fun K hK => ?_) AllReadyH.nil
        go_simp
        go_at_call 24
        refine (H2.out _).mono ?_
        rintro e w3 ⟨g2, hg3, rfl, hb3, hi3⟩
        have I2 := Lib.hid hi3
        replace RA := Lib.hid (RA.out.below hb3)
        replace I1 := Lib.hid (I1.out.below hb3)
        have HB3 := Lib.hid (HB2.out.trans (hb3.mono HB2.out.size))
        clear hb3 hi3 hg3
        go_wp2_with fail
        refine hK.out _ _ ?_ (fun hHeld => ?_)
        · exact HS.out _ HB3.out
        clear hK K
        (try simp only [Act.put, List.setIfInBounds_toArray, List.set_cons_zero, List.set_cons_succ])
        refine wpAnyH_ready (rs := [9]) (by kernel_rfl) (by simp) ?_
        refine AllReadyH.cons (by simp only [List.getElem?_toArray, List.getElem?_cons_succ, List.getElem?_cons_zero] <;> rfl) (fun K hK => ?_) AllReadyH.nil
        go_simp
        go_at_call 23
        refine (mul_int ga g1 g2 b.num D _ RA.out I1.out I2.out HFM.out).mono ?_
        rintro e w4 ⟨rfl, hgr, hi4⟩
        have HB4 := Lib.hid (below_of_grown HB3.out hgr HGA.out)
        have I4 := Lib.hid hi4
        clear hgr hi4
        go_wp2_with fail
        refine hK.out _ _ ?_ (fun hHeld => ?_)
        · exact HS.out _ HB4.out
        clear hK K
        (try simp only [Act.put, List.setIfInBounds_toArray, List.set_cons_zero, List.set_cons_succ])
        refine wpAnyH_take (i := 10) (v := ?_) (by simp only [List.getElem?_toArray, List.getElem?_cons_succ, List.getElem?_cons_zero] <;> rfl) (by kernel_rfl) (by kernel_rfl) (by kernel_rfl) (by exact fun _ _ _ h => h) (Or.inl ⟨by rfl, ?_⟩) hHeld ?_
        rotate_left
        · intro w hSw; (try dsimp only at hSw); go_simp; (try with_reducible rfl)
        (try simp only [Act.put, List.setIfInBounds_toArray, List.set_cons_zero, List.set_cons_succ])
        refine wpAnyH_done (by kernel_rfl) ?_ _
        go_wp2_with fail
        go_meet
        exact Lib.hid ⟨ga, rfl, I4.out, HGA.out, HB4.out⟩
      · go_simp
        go_at_call 24
        refine (H2.out _).mono ?_
        rintro e w2 ⟨g2, hg2, rfl, hb2, hi2⟩
        have I2 := Lib.hid hi2
        replace I1 := Lib.hid (I1.out.below hb2)
        have HB2 := Lib.hid (HB1.out.trans (hb2.mono HB1.out.size))
        clear hb2 hi2 hg2
        go_wp2_with fail
        refine hK.out _ _ ?_ (fun hHeld => ?_)
        · exact HS.out _ HB2.out
        clear hK K
        (try simp only [Act.put, List.setIfInBounds_toArray, List.set_cons_zero, List.set_cons_succ])
        refine wpAnyH_ready (rs := [0]) (by kernel_rfl) (by simp) ?_
        refine AllReadyH.cons (by simp only [List.getElem?_toArray, List.getElem?_cons_zero] <;> rfl) (fun K hK => ?_) AllReadyH.nil
        go_simp
        refine hK.out _ _ ?_ (fun hHeld => ?_)
        · exact HS.out _ (HB2.out.alloc HB2.out.size _)
        clear hK K
        (try simp only [Act.put, List.setIfInBounds_toArray, List.set_cons_zero, List.set_cons_succ])
        obtain ⟨w3, hw3⟩ : ∃ W, W = w2.alloc (.cells #[.bool false, .slice none 0 0] 55) := ⟨_, rfl⟩
        have bo3 : Below w2.heap.size w2 w3 := by rw [hw3]; exact (Below.refl _ _).alloc (Nat.le_refl _) _
        have RA := Lib.hid (show Room w3 w2.heap.size by rw [hw3]; exact room_new _)
        rw [← hw3] at hHeld ⊢
        clear hw3
        have HGA := Lib.hid (show m.heap.size ≤ w2.heap.size from HB2.out.size)
        obtain ⟨ga, hga⟩ : ∃ g, w2.heap.size = g := ⟨_, rfl⟩
        rw [hga] at RA HGA
        (try rw [hga])
        replace I1 := Lib.hid (I1.out.below bo3)
        replace I2 := Lib.hid (I2.out.below bo3)
        have HB3 := Lib.hid (HB2.out.trans (bo3.mono HB2.out.size))
        clear bo3 hga
        refine wpAnyH_ready (rs := [9]) (by kernel_rfl) (by simp) ?_
        refine AllReadyH.cons (by simp only [List.getElem?_toArray, List.getElem?_cons_succ, List.getElem?_cons_zero] <;> rfl) (fun K hK => ?_) AllReadyH.nil
        go_simp
        go_at_call 23
        refine (mul_int ga g1 g2 b.num D _ RA.out I1.out I2.out HFM.out).mono ?_
        rintro e w4 ⟨rfl, hgr, hi4⟩
        have HB4 := Lib.hid (below_of_grown HB3.out hgr HGA.out)
        have I4 := Lib.hid hi4
        clear hgr hi4
        go_wp2_with fail
        refine hK.out _ _ ?_ (fun hHeld => ?_)
        · exact HS.out _ HB4.out
        clear hK K
        (try simp only [Act.put, List.setIfInBounds_toArray, List.set_cons_zero, List.set_cons_succ])
        refine wpAnyH_take (i := 10) (v := ?_) (by simp only [List.getElem?_toArray, List.getElem?_cons_succ, List.getElem?_cons_zero] <;> rfl) (by kernel_rfl) (by kernel_rfl) (by kernel_rfl) (by exact fun _ _ _ h => h) (Or.inl ⟨by rfl, ?_⟩) hHeld ?_
        rotate_left
        · intro w hSw; (try dsimp only at hSw); go_simp; (try with_reducible rfl)
        (try simp only [Act.put, List.setIfInBounds_toArray, List.set_cons_zero, List.set_cons_succ])
        refine wpAnyH_done (by kernel_rfl) ?_ _
        go_wp2_with fail
        go_meet
        exact Lib.hid ⟨ga, rfl, I4.out, HGA.out, HB4.out⟩
  case rest =>
    obtain ⟨g, rfl, hi, hg, hb⟩ := hcut.out
    have HX1 := Lib.hid (HX.out.later hb)
    have HI := Lib.hid hi
    have HG := Lib.hid (show w.heap.size < g by have := HX.out.first.lt; omega)
    clear hcut hi hg hb HX HS H1 H2 HFM e1
    obtain ⟨c0, c1, c2, c3, c4⟩ := HX1.out.first.cells
    go_wp2_with fail
    refine (H3.out _).mono ?_
    rintro e wa ⟨gl, hgl, rfl, hb, hil⟩
    have HXa := Lib.hid (HX1.out.later hb)
    have HIa := Lib.hid (And.intro (HI.out.below hb) hil)
    clear HX1 HI hb hil hgl c0 c1 c2 c3 c4 H3
    obtain ⟨c0, c1, c2, c3, c4⟩ := HXa.out.first.cells
    go_wp2_with fail
    refine (add_int g g gl (b.num * D) b.lev _ HIa.out.1.room HIa.out.1 HIa.out.2 HFA.out).mono ?_
    rintro e wb ⟨rfl, hgr, hib⟩
    have HXb := Lib.hid (HXa.out.grown hgr HG.out)
    have HIb := Lib.hid hib
    clear HXa HIa hgr hib c0 c1 c2 c3 c4 HFA
    obtain ⟨c0, c1, c2, c3, c4⟩ := HXb.out.first.cells
    generalize b.num * D + b.lev = V at *
    go_wp2_with fail
    refine (H4.out _).mono ?_
    rintro e wc ⟨gm, hgm, rfl, hb, him⟩
    have HXc := Lib.hid (HXb.out.later hb)
    have HIc := Lib.hid (And.intro (HIb.out.below hb) him)
    clear HXb HIb hb him hgm c0 c1 c2 c3 c4 H4
    go_wp2_with fail
    refine (cmp_int g gm V M _ HIc.out.1 HIc.out.2).mono ?_
    rintro e wd ⟨rfl, kk, rfl⟩
    have HXd := Lib.hid (HXc.out.later (below_drewN (Below.refl _ _) kk))
    have HId := Lib.hid (And.intro (HIc.out.1.drewN kk) (HIc.out.2.drewN kk))
    clear HXc HIc
    generalize wc.drewN kk = we at *
    have HJ1 := Lib.hid (int64_any g V we HId.out.1 HN.out.1)
    have HJ2 := Lib.hid (int64_any gm M we HId.out.2 HN.out.2)
    clear HId HN
    by_cases c : 0 < cmpI V M
    · have HE : Hid (R = M) := Lib.hid (by rw [HL.out, if_pos c])
      generalize cmpI V M = C at *
      clear HL HJ1
      go_wp2_with fail
      refine HJ2.out.mono ?_
      rintro e wf ⟨rfl, rfl⟩
      go_wp2_with fail
      go_ret
      exact ⟨ret_i64 HE.out.symm, HXd.out.below⟩
    · have HE : Hid (R = V) := Lib.hid (by rw [HL.out, if_neg c])
      generalize cmpI V M = C at *
      clear HL HJ2
      go_wp2_with fail
      refine HJ1.out.mono ?_
      rintro e wf ⟨rfl, rfl⟩
      go_wp2_with fail
      go_ret
      exact ⟨ret_i64 HE.out.symm, HXd.out.below⟩
end Go.Proofs.Ytkcfhjbppnchoaa
