/- meter.Right and Colour answer as the reference does: the walk. -/
import Derived.Test.YtnbjcahhmibmdaaMt13
import Derived.Test.YtnbjcahhmibmdaaMtWorse
namespace Go.Proofs.Ytnbjcahhmibmdaa
open Go.RowKit Go.Maps

set_option maxRecDepth 100000 in
set_option maxHeartbeats 8000000 in
theorem colours_law (b : Mt) (t n had : Int) (w : World) :
    Calls Try.prog 3 #[.agg b.cells, .agg #[.int .i64 t, .int .i64 n], .int .i64 had] w fun e w' => e = .returned (.bool true) ∧ Below w.heap.size w w' := by
  have HX := Lib.hid (boxS_at w b t n)
  have H1 := Lib.hid (fun W => colour_any b t n had W)
  have H2 := Lib.hid (fun W => jColour_any b t n had W)
  have H3 := Lib.hid (fun W => right_any b W)
  have H4 := Lib.hid (fun W => jRight_any b W)
  generalize b.colour t n had = X at *
  generalize b.right = R at *
  obtain ⟨bt, u, c⟩ := X
  unfold Told at H1 H2
  dsimp only at H1 H2
  obtain ⟨⟨c0, c1, c2, c3, c4, c5⟩, s0, s1⟩ := And.intro HX.out.first.cells HX.out.shot.cells
  unfold Mt.cells at H1 H2 H3 H4 ⊢
  go_enter Try.func3, Try.ntmps3
  go_upto_region 1 with fail
  change Code.wp _ _ _ _ (boxS w b t n)
  generalize boxS w b t n = m at *
  go_wp2_with fail
  refine (H1.out _).mono ?_
  rintro e m1 ⟨rfl, hb⟩
  have hl := laidM_at m1 bt
  have HX1 := Lib.hid (And.intro ((HX.out.later hb).later hl.2) hl.1)
  clear HX hb hl H1 c0 c1 c2 c3 c4 c5 s0 s1
  go_upto_region 2 with fail
  change Code.wp _ _ _ _ (laidM m1 bt)
  generalize laidM m1 bt = m2 at *
  generalize m1.heap.size = g1 at *
  obtain ⟨⟨c0, c1, c2, c3, c4, c5⟩, s0, s1⟩ := And.intro HX1.out.1.first.cells HX1.out.1.shot.cells
  go_wp2_with fail
  refine (H2.out _).mono ?_
  rintro e m3 ⟨rfl, hb⟩
  have hl := laidM_at m3 bt
  have HX2 := Lib.hid (And.intro ((HX1.out.1.later hb).later hl.2) (And.intro ((HX1.out.2.below hb).below hl.2) hl.1))
  clear HX1 hb hl H2 c0 c1 c2 c3 c4 c5 s0 s1
  go_upto_region 3 with fail
  change Code.wp _ _ _ _ (laidM m3 bt)
  generalize laidM m3 bt = m4 at *
  generalize m3.heap.size = g2 at *
  have HS : Hid (∀ W, Below m4.heap.size m4 W → (fun W : World => (W.cell? ⟨w.heap.size, 0, none⟩ = some (.int .i64 b.rate) ∧ W.cell? ⟨w.heap.size, 1, none⟩ = some (.int .i64 b.burst) ∧ W.cell? ⟨w.heap.size, 2, none⟩ = some (.int .i64 b.exc) ∧ W.cell? ⟨w.heap.size, 3, none⟩ = some (.int .i64 b.fst) ∧ W.cell? ⟨w.heap.size, 4, none⟩ = some (.int .i64 b.snd) ∧ W.cell? ⟨w.heap.size, 5, none⟩ = some (.int .i64 b.tm)) ∧ (W.cell? ⟨g1, 0, none⟩ = some (.int .i64 bt.rate) ∧ W.cell? ⟨g1, 1, none⟩ = some (.int .i64 bt.burst) ∧ W.cell? ⟨g1, 2, none⟩ = some (.int .i64 bt.exc) ∧ W.cell? ⟨g1, 3, none⟩ = some (.int .i64 bt.fst) ∧ W.cell? ⟨g1, 4, none⟩ = some (.int .i64 bt.snd) ∧ W.cell? ⟨g1, 5, none⟩ = some (.int .i64 bt.tm)) ∧ (W.cell? ⟨g2, 0, none⟩ = some (.int .i64 bt.rate) ∧ W.cell? ⟨g2, 1, none⟩ = some (.int .i64 bt.burst) ∧ W.cell? ⟨g2, 2, none⟩ = some (.int .i64 bt.exc) ∧ W.cell? ⟨g2, 3, none⟩ = some (.int .i64 bt.fst) ∧ W.cell? ⟨g2, 4, none⟩ = some (.int .i64 bt.snd) ∧ W.cell? ⟨g2, 5, none⟩ = some (.int .i64 bt.tm))) W) := Lib.hid (fun W hW => ⟨(HX2.out.1.first.below hW).cells, (HX2.out.2.1.below hW).cells, (HX2.out.2.2.below hW).cells⟩)
  refine wp_region_held_drew (S := (fun W : World => (W.cell? ⟨w.heap.size, 0, none⟩ = some (.int .i64 b.rate) ∧ W.cell? ⟨w.heap.size, 1, none⟩ = some (.int .i64 b.burst) ∧ W.cell? ⟨w.heap.size, 2, none⟩ = some (.int .i64 b.exc) ∧ W.cell? ⟨w.heap.size, 3, none⟩ = some (.int .i64 b.fst) ∧ W.cell? ⟨w.heap.size, 4, none⟩ = some (.int .i64 b.snd) ∧ W.cell? ⟨w.heap.size, 5, none⟩ = some (.int .i64 b.tm)) ∧ (W.cell? ⟨g1, 0, none⟩ = some (.int .i64 bt.rate) ∧ W.cell? ⟨g1, 1, none⟩ = some (.int .i64 bt.burst) ∧ W.cell? ⟨g1, 2, none⟩ = some (.int .i64 bt.exc) ∧ W.cell? ⟨g1, 3, none⟩ = some (.int .i64 bt.fst) ∧ W.cell? ⟨g1, 4, none⟩ = some (.int .i64 bt.snd) ∧ W.cell? ⟨g1, 5, none⟩ = some (.int .i64 bt.tm)) ∧ (W.cell? ⟨g2, 0, none⟩ = some (.int .i64 bt.rate) ∧ W.cell? ⟨g2, 1, none⟩ = some (.int .i64 bt.burst) ∧ W.cell? ⟨g2, 2, none⟩ = some (.int .i64 bt.exc) ∧ W.cell? ⟨g2, 3, none⟩ = some (.int .i64 bt.fst) ∧ W.cell? ⟨g2, 4, none⟩ = some (.int .i64 bt.snd) ∧ W.cell? ⟨g2, 5, none⟩ = some (.int .i64 bt.tm)))) (by kernel_rfl) (HS.out _ (Below.refl _ _).drew) (fun hHeld => ?_)
  obtain ⟨w10, hw10⟩ : ∃ W0, W0 = m4.drew := ⟨_, rfl⟩
  have HB10 : Hid (Below m4.heap.size m4 w10) := Lib.hid (by rw [hw10]; exact (Below.refl _ _).drew)
  rw [← hw10] at hHeld ⊢
  clear hw10
  refine wpAnyH_take (i := 0) (v := ?_) (by simp only [List.getElem?_toArray, List.getElem?_cons_zero] <;> rfl) (by kernel_rfl) (by kernel_rfl) (by kernel_rfl) (by exact fun _ _ _ h => h) (Or.inl ⟨by rfl, ?_⟩) hHeld ?_
  rotate_left
  · intro w hSw; (try dsimp only at hSw); go_simp; (try with_reducible rfl)
  (try simp only [Act.put, List.setIfInBounds_toArray, List.set_cons_zero, List.set_cons_succ])
  refine wpAnyH_take (i := 2) (v := ?_) (by simp only [List.getElem?_toArray, List.getElem?_cons_succ, List.getElem?_cons_zero] <;> rfl) (by kernel_rfl) (by kernel_rfl) (by kernel_rfl) (by exact fun _ _ _ h => h) (Or.inl ⟨by rfl, ?_⟩) hHeld ?_
  rotate_left
  · intro w hSw; (try dsimp only at hSw); go_simp; (try with_reducible rfl)
  (try simp only [Act.put, List.setIfInBounds_toArray, List.set_cons_zero, List.set_cons_succ])
  refine wpAnyH_ready (rs := [1]) (by kernel_rfl) (by simp) ?_
  refine AllReadyH.cons (by simp only [List.getElem?_toArray, List.getElem?_cons_succ, List.getElem?_cons_zero] <;> rfl) (fun K hK => ?_) AllReadyH.nil
  go_simp
  go_at_call 11
  refine (H3.out _).mono ?_
  rintro e w11 ⟨rfl, hb11⟩
  have HB11 := Lib.hid (HB10.out.trans (hb11.mono HB10.out.size))
  clear hb11
  go_wp2_with fail
  refine hK.out _ _ ?_ (fun hHeld => ?_)
  · exact HS.out _ HB11.out
  clear hK K
  (try simp only [Act.put, List.setIfInBounds_toArray, List.set_cons_zero, List.set_cons_succ])
  refine wpAnyH_ready (rs := [3]) (by kernel_rfl) (by simp) ?_
  refine AllReadyH.cons (by simp only [List.getElem?_toArray, List.getElem?_cons_succ, List.getElem?_cons_zero] <;> rfl) (fun K hK => ?_) AllReadyH.nil
  go_simp
  go_at_call 12
  refine (H4.out _).mono ?_
  rintro e w12 ⟨rfl, hb12⟩
  have HB12 := Lib.hid (HB11.out.trans (hb12.mono HB11.out.size))
  clear hb12
  go_wp2_with fail
  refine hK.out _ _ ?_ (fun hHeld => ?_)
  · exact HS.out _ HB12.out
  clear hK K
  (try simp only [Act.put, List.setIfInBounds_toArray, List.set_cons_zero, List.set_cons_succ])
  refine wpAnyH_take (i := 4) (v := ?_) (by simp only [List.getElem?_toArray, List.getElem?_cons_succ, List.getElem?_cons_zero] <;> rfl) (by kernel_rfl) (by kernel_rfl) (by kernel_rfl) (by exact fun _ _ _ h => h) (Or.inl ⟨by rfl, ?_⟩) hHeld ?_
  rotate_left
  · intro w hSw; (try dsimp only at hSw); go_simp; (try with_reducible rfl)
  (try simp only [Act.put, List.setIfInBounds_toArray, List.set_cons_zero, List.set_cons_succ])
  refine wpAnyH_take (i := 5) (v := ?_) (by simp only [List.getElem?_toArray, List.getElem?_cons_succ, List.getElem?_cons_zero] <;> rfl) (by kernel_rfl) (by kernel_rfl) (by kernel_rfl) (by exact fun _ _ _ h => h) (Or.inl ⟨by rfl, ?_⟩) hHeld ?_
  rotate_left
  · intro w hSw; (try dsimp only at hSw); go_simp; (try with_reducible rfl)
  (try simp only [Act.put, List.setIfInBounds_toArray, List.set_cons_zero, List.set_cons_succ])
  refine wpAnyH_take (i := 6) (v := ?_) (by simp only [List.getElem?_toArray, List.getElem?_cons_succ, List.getElem?_cons_zero] <;> rfl) (by kernel_rfl) (by kernel_rfl) (by kernel_rfl) (by exact fun _ _ _ h => h) (Or.inl ⟨by rfl, ?_⟩) hHeld ?_
  rotate_left
  · intro w hSw; (try dsimp only at hSw); go_simp; (try with_reducible rfl)
  (try simp only [Act.put, List.setIfInBounds_toArray, List.set_cons_zero, List.set_cons_succ])
  refine wpAnyH_take (i := 7) (v := ?_) (by simp only [List.getElem?_toArray, List.getElem?_cons_succ, List.getElem?_cons_zero] <;> rfl) (by kernel_rfl) (by kernel_rfl) (by kernel_rfl) (by exact fun _ _ _ h => h) (Or.inl ⟨by rfl, ?_⟩) hHeld ?_
  rotate_left
  · intro w hSw; (try dsimp only at hSw); go_simp; (try with_reducible rfl)
  (try simp only [Act.put, List.setIfInBounds_toArray, List.set_cons_zero, List.set_cons_succ])
  refine wpAnyH_take (i := 8) (v := ?_) (by simp only [List.getElem?_toArray, List.getElem?_cons_succ, List.getElem?_cons_zero] <;> rfl) (by kernel_rfl) (by kernel_rfl) (by kernel_rfl) (by exact fun _ _ _ h => h) (Or.inl ⟨by rfl, ?_⟩) hHeld ?_
  rotate_left
  · intro w hSw; (try dsimp only at hSw); go_simp; (try with_reducible rfl)
  (try simp only [Act.put, List.setIfInBounds_toArray, List.set_cons_zero, List.set_cons_succ])
  refine wpAnyH_take (i := 9) (v := ?_) (by simp only [List.getElem?_toArray, List.getElem?_cons_succ, List.getElem?_cons_zero] <;> rfl) (by kernel_rfl) (by kernel_rfl) (by kernel_rfl) (by exact fun _ _ _ h => h) (Or.inl ⟨by rfl, ?_⟩) hHeld ?_
  rotate_left
  · intro w hSw; (try dsimp only at hSw); go_simp; (try with_reducible rfl)
  (try simp only [Act.put, List.setIfInBounds_toArray, List.set_cons_zero, List.set_cons_succ])
  refine wpAnyH_take (i := 10) (v := ?_) (by simp only [List.getElem?_toArray, List.getElem?_cons_succ, List.getElem?_cons_zero] <;> rfl) (by kernel_rfl) (by kernel_rfl) (by kernel_rfl) (by exact fun _ _ _ h => h) (Or.inl ⟨by rfl, ?_⟩) hHeld ?_
  rotate_left
  · intro w hSw; (try dsimp only at hSw); go_simp; (try with_reducible rfl)
  (try simp only [Act.put, List.setIfInBounds_toArray, List.set_cons_zero, List.set_cons_succ])
  refine wpAnyH_take (i := 11) (v := ?_) (by simp only [List.getElem?_toArray, List.getElem?_cons_succ, List.getElem?_cons_zero] <;> rfl) (by kernel_rfl) (by kernel_rfl) (by kernel_rfl) (by exact fun _ _ _ h => h) (Or.inl ⟨by rfl, ?_⟩) hHeld ?_
  rotate_left
  · intro w hSw; (try dsimp only at hSw); go_simp; (try with_reducible rfl)
  (try simp only [Act.put, List.setIfInBounds_toArray, List.set_cons_zero, List.set_cons_succ])
  refine wpAnyH_take (i := 12) (v := ?_) (by simp only [List.getElem?_toArray, List.getElem?_cons_succ, List.getElem?_cons_zero] <;> rfl) (by kernel_rfl) (by kernel_rfl) (by kernel_rfl) (by exact fun _ _ _ h => h) (Or.inl ⟨by rfl, ?_⟩) hHeld ?_
  rotate_left
  · intro w hSw; (try dsimp only at hSw); go_simp; (try with_reducible rfl)
  (try simp only [Act.put, List.setIfInBounds_toArray, List.set_cons_zero, List.set_cons_succ])
  refine wpAnyH_take (i := 13) (v := ?_) (by simp only [List.getElem?_toArray, List.getElem?_cons_succ, List.getElem?_cons_zero] <;> rfl) (by kernel_rfl) (by kernel_rfl) (by kernel_rfl) (by exact fun _ _ _ h => h) (Or.inl ⟨by rfl, ?_⟩) hHeld ?_
  rotate_left
  · intro w hSw; (try dsimp only at hSw); go_simp; (try with_reducible rfl)
  (try simp only [Act.put, List.setIfInBounds_toArray, List.set_cons_zero, List.set_cons_succ])
  refine wpAnyH_take (i := 14) (v := ?_) (by simp only [List.getElem?_toArray, List.getElem?_cons_succ, List.getElem?_cons_zero] <;> rfl) (by kernel_rfl) (by kernel_rfl) (by kernel_rfl) (by exact fun _ _ _ h => h) (Or.inl ⟨by rfl, ?_⟩) hHeld ?_
  rotate_left
  · intro w hSw; (try dsimp only at hSw); go_simp; (try with_reducible rfl)
  (try simp only [Act.put, List.setIfInBounds_toArray, List.set_cons_zero, List.set_cons_succ])
  refine wpAnyH_take (i := 15) (v := ?_) (by simp only [List.getElem?_toArray, List.getElem?_cons_succ, List.getElem?_cons_zero] <;> rfl) (by kernel_rfl) (by kernel_rfl) (by kernel_rfl) (by exact fun _ _ _ h => h) (Or.inl ⟨by rfl, ?_⟩) hHeld ?_
  rotate_left
  · intro w hSw; (try dsimp only at hSw); go_simp; (try with_reducible rfl)
  (try simp only [Act.put, List.setIfInBounds_toArray, List.set_cons_zero, List.set_cons_succ])
  refine wpAnyH_take (i := 16) (v := ?_) (by simp only [List.getElem?_toArray, List.getElem?_cons_succ, List.getElem?_cons_zero] <;> rfl) (by kernel_rfl) (by kernel_rfl) (by kernel_rfl) (by exact fun _ _ _ h => h) (Or.inl ⟨by rfl, ?_⟩) hHeld ?_
  rotate_left
  · intro w hSw; (try dsimp only at hSw); go_simp; (try with_reducible rfl)
  (try simp only [Act.put, List.setIfInBounds_toArray, List.set_cons_zero, List.set_cons_succ])
  refine wpAnyH_take (i := 17) (v := ?_) (by simp only [List.getElem?_toArray, List.getElem?_cons_succ, List.getElem?_cons_zero] <;> rfl) (by kernel_rfl) (by kernel_rfl) (by kernel_rfl) (by exact fun _ _ _ h => h) (Or.inl ⟨by rfl, ?_⟩) hHeld ?_
  rotate_left
  · intro w hSw; (try dsimp only at hSw); go_simp; (try with_reducible rfl)
  (try simp only [Act.put, List.setIfInBounds_toArray, List.set_cons_zero, List.set_cons_succ])
  refine wpAnyH_take (i := 18) (v := ?_) (by simp only [List.getElem?_toArray, List.getElem?_cons_succ, List.getElem?_cons_zero] <;> rfl) (by kernel_rfl) (by kernel_rfl) (by kernel_rfl) (by exact fun _ _ _ h => h) (Or.inl ⟨by rfl, ?_⟩) hHeld ?_
  rotate_left
  · intro w hSw; (try dsimp only at hSw); go_simp; (try with_reducible rfl)
  (try simp only [Act.put, List.setIfInBounds_toArray, List.set_cons_zero, List.set_cons_succ])
  refine wpAnyH_take (i := 19) (v := ?_) (by simp only [List.getElem?_toArray, List.getElem?_cons_succ, List.getElem?_cons_zero] <;> rfl) (by kernel_rfl) (by kernel_rfl) (by kernel_rfl) (by exact fun _ _ _ h => h) (Or.inl ⟨by rfl, ?_⟩) hHeld ?_
  rotate_left
  · intro w hSw; (try dsimp only at hSw); go_simp; (try with_reducible rfl)
  (try simp only [Act.put, List.setIfInBounds_toArray, List.set_cons_zero, List.set_cons_succ])
  refine wpAnyH_take (i := 20) (v := ?_) (by simp only [List.getElem?_toArray, List.getElem?_cons_succ, List.getElem?_cons_zero] <;> rfl) (by kernel_rfl) (by kernel_rfl) (by kernel_rfl) (by exact fun _ _ _ h => h) (Or.inl ⟨by rfl, ?_⟩) hHeld ?_
  rotate_left
  · intro w hSw; (try dsimp only at hSw); go_simp; (try with_reducible rfl)
  (try simp only [Act.put, List.setIfInBounds_toArray, List.set_cons_zero, List.set_cons_succ])
  refine wpAnyH_done (by kernel_rfl) ?_ _
  go_wp2_with fail
  go_ret
  exact ⟨by simp, HX2.out.1.below.trans (HB12.out.mono HX2.out.1.below.size)⟩
end Go.Proofs.Ytnbjcahhmibmdaa
