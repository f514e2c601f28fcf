/- bucket.Right, Full, Fill and Ready answer as the reference does: the walk. -/
import Derived.Test.YtkcfhjbppnchoaaBkTakes
namespace Go.Proofs.Ytkcfhjbppnchoaa
open Go.RowKit Go.Maps

structure FS (w W : World) (b f n r : Bk) (g7 g12 g14 : Nat) : Prop where
  box : Box1 w W b
  f : BkAt W g7 f
  n : BkAt W g12 n
  r : BkAt W g14 r
  o : w.heap.size < g7 ∧ g7 < g12 ∧ g12 < g14
theorem FS.later {w W W' : World} {b f n r : Bk} {g7 g12 g14 : Nat} (h : FS w W b f n r g7 g12 g14) (hb : Below W.heap.size W W') : FS w W' b f n r g7 g12 g14 := ⟨h.box.later hb, h.f.below hb, h.n.below hb, h.r.below hb, h.o⟩
theorem FS.put {w W : World} {b f n r : Bk} {g7 g12 g14 : Nat} (h : FS w W b f n r g7 g12 g14) (x : Int) : FS w (W.setCell ⟨g14, 3, none⟩ (.int .i64 x)) b f n { r with lev := x } g7 g12 g14 := by
  obtain ⟨o1, o2, o3⟩ := h.o
  exact ⟨⟨h.box.below.setCell (by show w.heap.size ≤ g14; omega) _, h.box.first.other _ _ (by show w.heap.size ≠ g14; omega)⟩, h.f.other _ _ (by show g7 ≠ g14; omega), h.n.other _ _ (by show g12 ≠ g14; omega), h.r.lev x, h.o⟩
theorem fresh_right (num den burst : Int) : (Bk.mk num den burst 0 0).right = rate num den burst := by
  rw [Bool.eq_iff_iff, Bk.right_iff]
  unfold rate
  simp only [Bool.and_eq_true, btw_true]
  constructor
  · rintro ⟨a, b, c, d, e, f, g, h, i, j⟩
    exact ⟨⟨a, b⟩, ⟨c, d⟩, e, f⟩
  · rintro ⟨⟨a, b⟩, ⟨c, d⟩, e, f⟩
    have := mul_le_of (A := 1048576) (B := 1048576) c d (show 0 ≤ den by omega) f
    exact ⟨a, b, c, d, e, f, Int.le_refl _, this.1, by show (0 : Int) ≤ 0; decide, by show (0 : Int) ≤ 1099511627776; decide⟩
theorem right_rate {b : Bk} (h : b.right = true) : rate b.num b.den b.burst = true := by
  have k := Bk.right_iff.1 h
  unfold rate
  simp only [Bool.and_eq_true, btw_true]
  exact ⟨⟨k.n0, k.n1⟩, ⟨k.u0, k.u1⟩, k.d0, k.d1⟩
theorem rate_most {num den burst : Int} (h : rate num den burst = true) : wrap64 (burst * den) = burst * den := by
  have := made_cells h
  injection this

set_option maxRecDepth 100000 in
set_option maxHeartbeats 8000000 in
theorem fills_norate (b : Bk) (t n : Int) (hrt : rate b.num b.den b.burst = false) (hr : b.right = false) (w : World) :
    Calls Try.prog 3 #[.agg #[.int .i64 b.num, .int .i64 b.den, .int .i64 b.burst, .int .i64 b.lev, .int .i64 b.tm], .int .i64 t, .int .i64 n] w fun e w' => e = .returned (.bool true) ∧ Below w.heap.size w w' := by
  obtain ⟨f, hfz⟩ : ∃ f, f = Bk.zero := ⟨_, rfl⟩
  obtain ⟨fe, hfe⟩ : ∃ fe : Int, fe = 1 := ⟨_, rfl⟩
  have hf : b.fill t = (f, fe) := by rw [hfz, hfe]; unfold Bk.fill; rw [hr]; rfl
  obtain ⟨ra, hra⟩ : ∃ ra : Int, ra = 0 := ⟨_, rfl⟩
  obtain ⟨re, hre⟩ : ∃ re : Int, re = 1 := ⟨_, rfl⟩
  obtain ⟨ru, hru⟩ : ∃ ru : Bool, ru = false := ⟨_, rfl⟩
  have hrd : b.ready n = (ra, ru, re) := by rw [hra, hru, hre]; exact ready_no hr
  have HX := Lib.hid (box1 w b)
  have H1 : Hid (∀ W, Calls Try.prog 10 #[.agg #[.int .i64 b.num, .int .i64 b.den, .int .i64 b.burst, .int .i64 b.lev, .int .i64 b.tm], .int .i64 t] W fun e w' => e = .returned (.tuple #[.agg #[.int .i64 f.num, .int .i64 f.den, .int .i64 f.burst, .int .i64 f.lev, .int .i64 f.tm], .int .i64 fe]) ∧ Below W.heap.size W w') := Lib.hid (fun W => by
    have := fill_any b t W
    rw [hf] at this
    exact this)
  have H2 : Hid (∀ W, Calls Try.prog 11 #[.agg #[.int .i64 b.num, .int .i64 b.den, .int .i64 b.burst, .int .i64 b.lev, .int .i64 b.tm], .int .i64 n] W fun e w' => e = .returned (.tuple #[.int .i64 ra, .bool ru, .int .i64 re]) ∧ Below W.heap.size W w') := Lib.hid (fun W => by
    have := ready_any b n W
    rw [hrd] at this
    exact this)
  obtain ⟨nb, hnb⟩ : ∃ nb, nb = Bk.zero := ⟨_, rfl⟩
  have H3 : Hid (∀ W, Calls Try.prog 12 #[.int .i64 b.num, .int .i64 b.den, .int .i64 b.burst] W fun e w' => e = .returned (.tuple #[.agg #[.int .i64 nb.num, .int .i64 nb.den, .int .i64 nb.burst, .int .i64 nb.lev, .int .i64 nb.tm], .int .i64 2]) ∧ Below W.heap.size W w') := Lib.hid (fun W => by
    have := full_any b.num b.den b.burst W
    unfold Bk.made at this
    rw [hrt] at this
    rw [hnb]
    exact this)
  have H4 : Hid (∀ W, Calls Try.prog 13 #[.agg #[.int .i64 b.num, .int .i64 b.den, .int .i64 b.burst, .int .i64 0, .int .i64 0]] W fun e w' => e = .returned (.bool false) ∧ Below W.heap.size W w') := Lib.hid (fun W => by
    have := iRight_any ⟨b.num, b.den, b.burst, 0, 0⟩ W
    rw [fresh_right, hrt] at this
    exact this)
  have H5 : Hid (∀ W, Calls Try.prog 14 #[.agg #[.int .i64 b.num, .int .i64 b.den, .int .i64 b.burst, .int .i64 b.lev, .int .i64 b.tm]] W fun e w' => e = .returned (.bool false) ∧ Below W.heap.size W w') := Lib.hid (fun W => by
    have := right_any b W
    rw [hr] at this
    exact this)
  have H6 : Hid (∀ W, Calls Try.prog 13 #[.agg #[.int .i64 b.num, .int .i64 b.den, .int .i64 b.burst, .int .i64 b.lev, .int .i64 b.tm]] W fun e w' => e = .returned (.bool false) ∧ Below W.heap.size W w') := Lib.hid (fun W => by
    have := iRight_any b W
    rw [hr] at this
    exact this)
  subst hnb
  unfold Bk.zero at H3
  dsimp only at H3
  subst hfz hfe hra hre hru
  unfold Bk.zero at H1
  dsimp only at H1
  clear hf hrd hrt hr
  obtain ⟨c0, c1, c2, c3, c4⟩ := HX.out.first.cells
  go_enter Try.func3, Try.ntmps3
  go_upto_region 1 with fail
  change Code.wp _ _ _ _ (one w b)
  generalize one w b = m at *
  go_wp2_with fail
  refine (H1.out _).mono ?_
  rintro e w1 ⟨rfl, hb⟩
  have hl := laidB_at w1 Bk.zero
  have HX1 := Lib.hid (And.intro ((HX.out.later hb).later hl.2) (And.intro hl.1 (show w.heap.size < w1.heap.size from Nat.lt_of_lt_of_le HX.out.first.lt hb.size)))
  clear HX hb hl H1 c0 c1 c2 c3 c4
  go_upto_region 2 with fail
  change Code.wp _ _ _ _ (laidB w1 Bk.zero)
  generalize laidB w1 Bk.zero = w2 at *
  generalize w1.heap.size = g7 at *
  obtain ⟨c0, c1, c2, c3, c4⟩ := HX1.out.1.first.cells
  go_wp2_with fail
  refine (H2.out _).mono ?_
  rintro e w3 ⟨rfl, hb⟩
  have HX2 := Lib.hid (And.intro (HX1.out.1.later hb) (And.intro (HX1.out.2.1.below hb) HX1.out.2.2))
  clear HX1 hb H2 c0 c1 c2 c3 c4
  obtain ⟨c0, c1, c2, c3, c4⟩ := HX2.out.1.first.cells
  go_wp2_with fail
  refine (H3.out _).mono ?_
  rintro e w4 ⟨rfl, hb⟩
  have hl := laidB_at w4 Bk.zero
  have HX3 := Lib.hid (And.intro ((HX2.out.1.later hb).later hl.2) (And.intro ((HX2.out.2.1.below hb).below hl.2) (And.intro hl.1 (And.intro HX2.out.2.2 (show g7 < w4.heap.size from Nat.lt_of_lt_of_le HX2.out.2.1.lt hb.size)))))
  clear HX2 hb hl H3 c0 c1 c2 c3 c4
  go_upto_region 4 with fail
  change Code.wp _ _ _ _ (laidB w4 Bk.zero)
  generalize laidB w4 Bk.zero = w5 at *
  generalize w4.heap.size = g12 at *
  obtain ⟨c0, c1, c2, c3, c4⟩ := HX3.out.1.first.cells
  have hl := laidB_at w5 ⟨b.num, b.den, b.burst, 0, 0⟩
  have HF := Lib.hid (FS.mk (w := w) (g7 := g7) (g12 := g12) (g14 := w5.heap.size) (HX3.out.1.later hl.2) (HX3.out.2.1.below hl.2) (HX3.out.2.2.1.below hl.2) hl.1 ⟨HX3.out.2.2.2.1, HX3.out.2.2.2.2, HX3.out.2.2.1.lt⟩)
  clear hl HX3
  go_upto_region 5 with fail
  clear c0 c1 c2 c3 c4
  change Code.wp _ _ _ _ (laidB w5 ⟨b.num, b.den, b.burst, 0, 0⟩)
  generalize laidB w5 ⟨b.num, b.den, b.burst, 0, 0⟩ = w6 at *
  generalize w5.heap.size = g14 at *
  obtain ⟨c0, c1, c2, c3, c4⟩ := HF.out.r.cells
  dsimp only at c0 c1 c2 c3 c4
  go_wp2_with fail
  refine (H4.out _).mono ?_
  rintro e w7 ⟨rfl, hb⟩
  have HF2 := Lib.hid (HF.out.later hb)
  clear HF hb H4 c0 c1 c2 c3 c4
  have hn := HF2.out.n.cells
  unfold Bk.zero at hn
  dsimp only at hn
  obtain ⟨c0, c1, c2, c3, c4⟩ := hn
  go_upto_region 11 with fail
  clear c0 c1 c2 c3 c4
  have HB := Lib.hid (And.intro HF2.out.box HF2.out.f)
  clear HF2
  generalize w7 = w8 at *
  have HS : Hid (∀ W, Below w8.heap.size w8 W → (fun W : World => W.cell? ⟨w.heap.size, 0, none⟩ = some (.int .i64 b.num) ∧ W.cell? ⟨w.heap.size, 1, none⟩ = some (.int .i64 b.den) ∧ W.cell? ⟨w.heap.size, 2, none⟩ = some (.int .i64 b.burst) ∧ W.cell? ⟨w.heap.size, 3, none⟩ = some (.int .i64 b.lev) ∧ W.cell? ⟨w.heap.size, 4, none⟩ = some (.int .i64 b.tm)) W) := Lib.hid (fun W hW => (HB.out.1.later hW).first.cells)
  refine wp_region_held_drew (S := (fun W : World => W.cell? ⟨w.heap.size, 0, none⟩ = some (.int .i64 b.num) ∧ W.cell? ⟨w.heap.size, 1, none⟩ = some (.int .i64 b.den) ∧ W.cell? ⟨w.heap.size, 2, none⟩ = some (.int .i64 b.burst) ∧ W.cell? ⟨w.heap.size, 3, none⟩ = some (.int .i64 b.lev) ∧ W.cell? ⟨w.heap.size, 4, none⟩ = some (.int .i64 b.tm))) (by kernel_rfl) (HS.out _ (Below.refl _ _).drew) (fun hHeld => ?_)
  obtain ⟨w0, hw0⟩ : ∃ W0, W0 = w8.drew := ⟨_, rfl⟩
  have HB0 : Hid (Below w8.heap.size w8 w0) := Lib.hid (by rw [hw0]; exact (Below.refl _ _).drew)
  rw [← hw0] at hHeld ⊢
  clear hw0
  refine wpAnyH_take (i := 0) (v := ?_) (by simp only [List.getElem?_toArray, List.getElem?_cons_zero] <;> rfl) (by kernel_rfl) (by kernel_rfl) (by kernel_rfl) (by exact fun _ _ _ h => h) (Or.inl ⟨by rfl, ?_⟩) hHeld ?_
  rotate_left
  · intro w hSw; (try dsimp only at hSw); go_simp; (try with_reducible rfl)
  (try simp only [Act.put, List.setIfInBounds_toArray, List.set_cons_zero, List.set_cons_succ])
  refine wpAnyH_take (i := 2) (v := ?_) (by simp only [List.getElem?_toArray, List.getElem?_cons_succ, List.getElem?_cons_zero] <;> rfl) (by kernel_rfl) (by kernel_rfl) (by kernel_rfl) (by exact fun _ _ _ h => h) (Or.inl ⟨by rfl, ?_⟩) hHeld ?_
  rotate_left
  · intro w hSw; (try dsimp only at hSw); go_simp; (try with_reducible rfl)
  (try simp only [Act.put, List.setIfInBounds_toArray, List.set_cons_zero, List.set_cons_succ])
  refine wpAnyH_ready (rs := [1]) (by kernel_rfl) (by simp) ?_
  refine AllReadyH.cons (by simp only [List.getElem?_toArray, List.getElem?_cons_succ, List.getElem?_cons_zero] <;> rfl) (fun K hK => ?_) AllReadyH.nil
  go_simp
  go_at_call 14
  refine (H5.out _).mono ?_
  rintro e w1 ⟨rfl, hb1⟩
  have HB1 := Lib.hid (HB0.out.trans (hb1.mono HB0.out.size))
  clear hb1
  go_wp2_with fail
  refine hK.out _ _ ?_ (fun hHeld => ?_)
  · exact HS.out _ HB1.out
  clear hK K
  (try simp only [Act.put, List.setIfInBounds_toArray, List.set_cons_zero, List.set_cons_succ])
  refine wpAnyH_ready (rs := [3]) (by kernel_rfl) (by simp) ?_
  refine AllReadyH.cons (by simp only [List.getElem?_toArray, List.getElem?_cons_succ, List.getElem?_cons_zero] <;> rfl) (fun K hK => ?_) AllReadyH.nil
  go_simp
  go_at_call 13
  refine (H6.out _).mono ?_
  rintro e w2 ⟨rfl, hb2⟩
  have HB2 := Lib.hid (HB1.out.trans (hb2.mono HB1.out.size))
  clear hb2
  go_wp2_with fail
  refine hK.out _ _ ?_ (fun hHeld => ?_)
  · exact HS.out _ HB2.out
  clear hK K
  (try simp only [Act.put, List.setIfInBounds_toArray, List.set_cons_zero, List.set_cons_succ])
  refine wpAnyH_take (i := 4) (v := ?_) (by simp only [List.getElem?_toArray, List.getElem?_cons_succ, List.getElem?_cons_zero] <;> rfl) (by kernel_rfl) (by kernel_rfl) (by kernel_rfl) (by exact fun _ _ _ h => h) (Or.inl ⟨by rfl, ?_⟩) hHeld ?_
  rotate_left
  · intro w hSw; (try dsimp only at hSw); go_simp; (try with_reducible rfl)
  (try simp only [Act.put, List.setIfInBounds_toArray, List.set_cons_zero, List.set_cons_succ])
  refine wpAnyH_done (by kernel_rfl) ?_ _
  have HC := Lib.hid (And.intro (HB.out.1.later HB2.out) (HB.out.2.below HB2.out))
  clear HB HB0 HB1 HB2 HS hHeld H5
  obtain ⟨c0, c1, c2, c3, c4⟩ := HC.out.1.first.cells
  go_wp2_with fail
  refine (H6.out _).mono ?_
  rintro e wa ⟨rfl, hb⟩
  have HD := Lib.hid (And.intro (HC.out.1.later hb) (HC.out.2.below hb))
  clear HC hb c0 c1 c2 c3 c4
  have hz := HD.out.2.cells
  unfold Bk.zero at hz
  dsimp only at hz
  obtain ⟨d0, d1, d2, d3, d4⟩ := hz
  go_wp2_with fail
  go_ret
  exact ⟨by simp, HD.out.1.below⟩

set_option maxRecDepth 100000 in
set_option maxHeartbeats 8000000 in
theorem fills_bad (b : Bk) (t n : Int) (hrt : rate b.num b.den b.burst = true) (hr : b.right = false) (w : World) :
    Calls Try.prog 3 #[.agg #[.int .i64 b.num, .int .i64 b.den, .int .i64 b.burst, .int .i64 b.lev, .int .i64 b.tm], .int .i64 t, .int .i64 n] w fun e w' => e = .returned (.bool true) ∧ Below w.heap.size w w' := by
  obtain ⟨f, hfz⟩ : ∃ f, f = Bk.zero := ⟨_, rfl⟩
  obtain ⟨fe, hfe⟩ : ∃ fe : Int, fe = 1 := ⟨_, rfl⟩
  have hf : b.fill t = (f, fe) := by rw [hfz, hfe]; unfold Bk.fill; rw [hr]; rfl
  obtain ⟨ra, hra⟩ : ∃ ra : Int, ra = 0 := ⟨_, rfl⟩
  obtain ⟨re, hre⟩ : ∃ re : Int, re = 1 := ⟨_, rfl⟩
  obtain ⟨ru, hru⟩ : ∃ ru : Bool, ru = false := ⟨_, rfl⟩
  have hrd : b.ready n = (ra, ru, re) := by rw [hra, hru, hre]; exact ready_no hr
  have HX := Lib.hid (box1 w b)
  have H1 : Hid (∀ W, Calls Try.prog 10 #[.agg #[.int .i64 b.num, .int .i64 b.den, .int .i64 b.burst, .int .i64 b.lev, .int .i64 b.tm], .int .i64 t] W fun e w' => e = .returned (.tuple #[.agg #[.int .i64 f.num, .int .i64 f.den, .int .i64 f.burst, .int .i64 f.lev, .int .i64 f.tm], .int .i64 fe]) ∧ Below W.heap.size W w') := Lib.hid (fun W => by
    have := fill_any b t W
    rw [hf] at this
    exact this)
  have H2 : Hid (∀ W, Calls Try.prog 11 #[.agg #[.int .i64 b.num, .int .i64 b.den, .int .i64 b.burst, .int .i64 b.lev, .int .i64 b.tm], .int .i64 n] W fun e w' => e = .returned (.tuple #[.int .i64 ra, .bool ru, .int .i64 re]) ∧ Below W.heap.size W w') := Lib.hid (fun W => by
    have := ready_any b n W
    rw [hrd] at this
    exact this)
  obtain ⟨M, hM⟩ : ∃ M, b.burst * b.den = M := ⟨_, rfl⟩
  have e1 : wrap64 (b.burst * b.den) = M := by rw [rate_most hrt, hM]
  obtain ⟨nb, hnb⟩ : ∃ nb, nb = Bk.mk b.num b.den b.burst M 0 := ⟨_, rfl⟩
  have H3 : Hid (∀ W, Calls Try.prog 12 #[.int .i64 b.num, .int .i64 b.den, .int .i64 b.burst] W fun e w' => e = .returned (.tuple #[.agg #[.int .i64 nb.num, .int .i64 nb.den, .int .i64 nb.burst, .int .i64 nb.lev, .int .i64 nb.tm], .int .i64 0]) ∧ Below W.heap.size W w') := Lib.hid (fun W => by
    have := full_any b.num b.den b.burst W
    unfold Bk.made at this
    rw [hrt] at this
    rw [hnb, ← hM]
    exact this)
  have H4 : Hid (∀ W, Calls Try.prog 13 #[.agg #[.int .i64 b.num, .int .i64 b.den, .int .i64 b.burst, .int .i64 0, .int .i64 0]] W fun e w' => e = .returned (.bool true) ∧ Below W.heap.size W w') := Lib.hid (fun W => by
    have := iRight_any ⟨b.num, b.den, b.burst, 0, 0⟩ W
    rw [fresh_right, hrt] at this
    exact this)
  have H5 : Hid (∀ W, Calls Try.prog 14 #[.agg #[.int .i64 b.num, .int .i64 b.den, .int .i64 b.burst, .int .i64 b.lev, .int .i64 b.tm]] W fun e w' => e = .returned (.bool false) ∧ Below W.heap.size W w') := Lib.hid (fun W => by
    have := right_any b W
    rw [hr] at this
    exact this)
  have H6 : Hid (∀ W, Calls Try.prog 13 #[.agg #[.int .i64 b.num, .int .i64 b.den, .int .i64 b.burst, .int .i64 b.lev, .int .i64 b.tm]] W fun e w' => e = .returned (.bool false) ∧ Below W.heap.size W w') := Lib.hid (fun W => by
    have := iRight_any b W
    rw [hr] at this
    exact this)
  subst hnb
  dsimp only at H3
  subst hfz hfe hra hre hru
  unfold Bk.zero at H1
  dsimp only at H1
  clear hf hrd hrt hr hM
  obtain ⟨c0, c1, c2, c3, c4⟩ := HX.out.first.cells
  go_enter Try.func3, Try.ntmps3
  go_upto_region 1 with fail
  change Code.wp _ _ _ _ (one w b)
  generalize one w b = m at *
  go_wp2_with fail
  refine (H1.out _).mono ?_
  rintro e w1 ⟨rfl, hb⟩
  have hl := laidB_at w1 Bk.zero
  have HX1 := Lib.hid (And.intro ((HX.out.later hb).later hl.2) (And.intro hl.1 (show w.heap.size < w1.heap.size from Nat.lt_of_lt_of_le HX.out.first.lt hb.size)))
  clear HX hb hl H1 c0 c1 c2 c3 c4
  go_upto_region 2 with fail
  change Code.wp _ _ _ _ (laidB w1 Bk.zero)
  generalize laidB w1 Bk.zero = w2 at *
  generalize w1.heap.size = g7 at *
  obtain ⟨c0, c1, c2, c3, c4⟩ := HX1.out.1.first.cells
  go_wp2_with fail
  refine (H2.out _).mono ?_
  rintro e w3 ⟨rfl, hb⟩
  have HX2 := Lib.hid (And.intro (HX1.out.1.later hb) (And.intro (HX1.out.2.1.below hb) HX1.out.2.2))
  clear HX1 hb H2 c0 c1 c2 c3 c4
  obtain ⟨c0, c1, c2, c3, c4⟩ := HX2.out.1.first.cells
  go_wp2_with fail
  refine (H3.out _).mono ?_
  rintro e w4 ⟨rfl, hb⟩
  have hl := laidB_at w4 (Bk.mk b.num b.den b.burst M 0)
  have HX3 := Lib.hid (And.intro ((HX2.out.1.later hb).later hl.2) (And.intro ((HX2.out.2.1.below hb).below hl.2) (And.intro hl.1 (And.intro HX2.out.2.2 (show g7 < w4.heap.size from Nat.lt_of_lt_of_le HX2.out.2.1.lt hb.size)))))
  clear HX2 hb hl H3 c0 c1 c2 c3 c4
  go_upto_region 4 with fail
  change Code.wp _ _ _ _ (laidB w4 (Bk.mk b.num b.den b.burst M 0))
  generalize laidB w4 (Bk.mk b.num b.den b.burst M 0) = w5 at *
  generalize w4.heap.size = g12 at *
  obtain ⟨c0, c1, c2, c3, c4⟩ := HX3.out.1.first.cells
  have hl := laidB_at w5 ⟨b.num, b.den, b.burst, 0, 0⟩
  have HF := Lib.hid (FS.mk (w := w) (g7 := g7) (g12 := g12) (g14 := w5.heap.size) (HX3.out.1.later hl.2) (HX3.out.2.1.below hl.2) (HX3.out.2.2.1.below hl.2) hl.1 ⟨HX3.out.2.2.2.1, HX3.out.2.2.2.2, HX3.out.2.2.1.lt⟩)
  clear hl HX3
  go_upto_region 5 with fail
  clear c0 c1 c2 c3 c4
  change Code.wp _ _ _ _ (laidB w5 ⟨b.num, b.den, b.burst, 0, 0⟩)
  generalize laidB w5 ⟨b.num, b.den, b.burst, 0, 0⟩ = w6 at *
  generalize w5.heap.size = g14 at *
  obtain ⟨c0, c1, c2, c3, c4⟩ := HF.out.r.cells
  dsimp only at c0 c1 c2 c3 c4
  go_wp2_with fail
  refine (H4.out _).mono ?_
  rintro e w7 ⟨rfl, hb⟩
  have HF2 := Lib.hid (HF.out.later hb)
  clear HF hb H4 c0 c1 c2 c3 c4
  have hr := HF2.out.r.cells
  dsimp only at hr
  obtain ⟨c0, c1, c2, c3, c4⟩ := HF2.out.box.first.cells
  obtain ⟨d0, d1, d2, d3, d4⟩ := hr
  have f3 := HF2.out.r.frozen 3
  have hl14 := HF2.out.r.lt
  go_upto_region 7 with fail
  have HF3 := Lib.hid (HF2.out.put M)
  clear HF2 c0 c1 c2 c3 c4 d0 d1 d2 d3 d4 f3 hl14
  dsimp only at HF3
  generalize w7.setCell ⟨g14, 3, none⟩ (.int .i64 M) = w8 at *
  have hn := HF3.out.n.cells
  have hr := HF3.out.r.cells
  dsimp only at hn hr
  obtain ⟨c0, c1, c2, c3, c4⟩ := hn
  obtain ⟨d0, d1, d2, d3, d4⟩ := hr
  go_upto_region 11 with fail
  clear c0 c1 c2 c3 c4 d0 d1 d2 d3 d4
  have HB := Lib.hid (And.intro HF3.out.box HF3.out.f)
  clear HF3
  have HS : Hid (∀ W, Below w8.heap.size w8 W → (fun W : World => W.cell? ⟨w.heap.size, 0, none⟩ = some (.int .i64 b.num) ∧ W.cell? ⟨w.heap.size, 1, none⟩ = some (.int .i64 b.den) ∧ W.cell? ⟨w.heap.size, 2, none⟩ = some (.int .i64 b.burst) ∧ W.cell? ⟨w.heap.size, 3, none⟩ = some (.int .i64 b.lev) ∧ W.cell? ⟨w.heap.size, 4, none⟩ = some (.int .i64 b.tm)) W) := Lib.hid (fun W hW => (HB.out.1.later hW).first.cells)
  refine wp_region_held_drew (S := (fun W : World => W.cell? ⟨w.heap.size, 0, none⟩ = some (.int .i64 b.num) ∧ W.cell? ⟨w.heap.size, 1, none⟩ = some (.int .i64 b.den) ∧ W.cell? ⟨w.heap.size, 2, none⟩ = some (.int .i64 b.burst) ∧ W.cell? ⟨w.heap.size, 3, none⟩ = some (.int .i64 b.lev) ∧ W.cell? ⟨w.heap.size, 4, none⟩ = some (.int .i64 b.tm))) (by kernel_rfl) (HS.out _ (Below.refl _ _).drew) (fun hHeld => ?_)
  obtain ⟨w0, hw0⟩ : ∃ W0, W0 = w8.drew := ⟨_, rfl⟩
  have HB0 : Hid (Below w8.heap.size w8 w0) := Lib.hid (by rw [hw0]; exact (Below.refl _ _).drew)
  rw [← hw0] at hHeld ⊢
  clear hw0
  refine wpAnyH_take (i := 0) (v := ?_) (by simp only [List.getElem?_toArray, List.getElem?_cons_zero] <;> rfl) (by kernel_rfl) (by kernel_rfl) (by kernel_rfl) (by exact fun _ _ _ h => h) (Or.inl ⟨by rfl, ?_⟩) hHeld ?_
  rotate_left
  · intro w hSw; (try dsimp only at hSw); go_simp; (try with_reducible rfl)
  (try simp only [Act.put, List.setIfInBounds_toArray, List.set_cons_zero, List.set_cons_succ])
  refine wpAnyH_take (i := 2) (v := ?_) (by simp only [List.getElem?_toArray, List.getElem?_cons_succ, List.getElem?_cons_zero] <;> rfl) (by kernel_rfl) (by kernel_rfl) (by kernel_rfl) (by exact fun _ _ _ h => h) (Or.inl ⟨by rfl, ?_⟩) hHeld ?_
  rotate_left
  · intro w hSw; (try dsimp only at hSw); go_simp; (try with_reducible rfl)
  (try simp only [Act.put, List.setIfInBounds_toArray, List.set_cons_zero, List.set_cons_succ])
  refine wpAnyH_ready (rs := [1]) (by kernel_rfl) (by simp) ?_
  refine AllReadyH.cons (by simp only [List.getElem?_toArray, List.getElem?_cons_succ, List.getElem?_cons_zero] <;> rfl) (fun K hK => ?_) AllReadyH.nil
  go_simp
  go_at_call 14
  refine (H5.out _).mono ?_
  rintro e w1 ⟨rfl, hb1⟩
  have HB1 := Lib.hid (HB0.out.trans (hb1.mono HB0.out.size))
  clear hb1
  go_wp2_with fail
  refine hK.out _ _ ?_ (fun hHeld => ?_)
  · exact HS.out _ HB1.out
  clear hK K
  (try simp only [Act.put, List.setIfInBounds_toArray, List.set_cons_zero, List.set_cons_succ])
  refine wpAnyH_ready (rs := [3]) (by kernel_rfl) (by simp) ?_
  refine AllReadyH.cons (by simp only [List.getElem?_toArray, List.getElem?_cons_succ, List.getElem?_cons_zero] <;> rfl) (fun K hK => ?_) AllReadyH.nil
  go_simp
  go_at_call 13
  refine (H6.out _).mono ?_
  rintro e w2 ⟨rfl, hb2⟩
  have HB2 := Lib.hid (HB1.out.trans (hb2.mono HB1.out.size))
  clear hb2
  go_wp2_with fail
  refine hK.out _ _ ?_ (fun hHeld => ?_)
  · exact HS.out _ HB2.out
  clear hK K
  (try simp only [Act.put, List.setIfInBounds_toArray, List.set_cons_zero, List.set_cons_succ])
  refine wpAnyH_take (i := 4) (v := ?_) (by simp only [List.getElem?_toArray, List.getElem?_cons_succ, List.getElem?_cons_zero] <;> rfl) (by kernel_rfl) (by kernel_rfl) (by kernel_rfl) (by exact fun _ _ _ h => h) (Or.inl ⟨by rfl, ?_⟩) hHeld ?_
  rotate_left
  · intro w hSw; (try dsimp only at hSw); go_simp; (try with_reducible rfl)
  (try simp only [Act.put, List.setIfInBounds_toArray, List.set_cons_zero, List.set_cons_succ])
  refine wpAnyH_done (by kernel_rfl) ?_ _
  have HC := Lib.hid (And.intro (HB.out.1.later HB2.out) (HB.out.2.below HB2.out))
  clear HB HB0 HB1 HB2 HS hHeld H5
  obtain ⟨c0, c1, c2, c3, c4⟩ := HC.out.1.first.cells
  go_wp2_with fail
  refine (H6.out _).mono ?_
  rintro e wa ⟨rfl, hb⟩
  have HD := Lib.hid (And.intro (HC.out.1.later hb) (HC.out.2.below hb))
  clear HC hb c0 c1 c2 c3 c4
  have hz := HD.out.2.cells
  unfold Bk.zero at hz
  dsimp only at hz
  obtain ⟨d0, d1, d2, d3, d4⟩ := hz
  go_wp2_with fail
  go_ret
  exact ⟨by simp, HD.out.1.below⟩

set_option maxRecDepth 100000 in
set_option maxHeartbeats 8000000 in
theorem fills_good (b : Bk) (t n : Int) (hr : b.right = true) (w : World) :
    Calls Try.prog 3 #[.agg #[.int .i64 b.num, .int .i64 b.den, .int .i64 b.burst, .int .i64 b.lev, .int .i64 b.tm], .int .i64 t, .int .i64 n] w fun e w' => e = .returned (.bool true) ∧ Below w.heap.size w w' := by
  have hrt := right_rate hr
  have hok := Bk.right_iff.1 hr
  obtain ⟨f, fe, hf⟩ : ∃ f fe, b.fill t = (f, fe) := ⟨_, _, rfl⟩
  obtain ⟨ra, ru, re, hrd⟩ : ∃ ra ru re, b.ready n = (ra, ru, re) := ⟨_, _, _, rfl⟩
  have HFO : Hid (t < b.tm ∨ 1099511627776 < t → f = Bk.zero ∧ fe = 2) := Lib.hid (fun h => by
    unfold Bk.fill at hf
    rw [hr, btw_false.2 h] at hf
    simp only [if_true, Bool.false_eq_true, if_false, Prod.mk.injEq] at hf
    exact ⟨hf.1.symm, hf.2.symm⟩)
  have HFI : Hid (b.tm ≤ t → t ≤ 1099511627776 → f = ⟨b.num, b.den, b.burst, b.level t, t⟩ ∧ fe = 0) := Lib.hid (fun h0 h1 => by
    unfold Bk.fill at hf
    rw [hr, btw_true.2 ⟨h0, h1⟩] at hf
    simp only [if_true, Prod.mk.injEq] at hf
    exact ⟨hf.1.symm, hf.2.symm⟩)
  have HLV : Hid (b.tm ≤ t → t ≤ 1099511627776 → ∀ W, Calls Try.prog 15 #[.agg #[.int .i64 b.num, .int .i64 b.den, .int .i64 b.burst, .int .i64 b.lev, .int .i64 b.tm], .int .i64 t] W fun e w' => e = .returned (.int .i64 (b.level t)) ∧ Below W.heap.size W w') := Lib.hid (fun h0 h1 W => level_any hok h0 h1 W)
  have HRO : Hid (n < 0 ∨ 1048576 < n → ra = 0 ∧ ru = false ∧ re = 2) := Lib.hid (fun h => by
    rw [ready_size hr (btw_false.2 h)] at hrd
    simp only [Prod.mk.injEq] at hrd
    exact ⟨hrd.1.symm, hrd.2.1.symm, hrd.2.2.symm⟩)
  have HRI : Hid (0 ≤ n → n ≤ 1048576 → re = 0) := Lib.hid (fun h0 h1 => by
    rcases hok.ready h0 h1 with ⟨r, h, _⟩ | ⟨h, _⟩ <;>
      (rw [h] at hrd; simp only [Prod.mk.injEq] at hrd; exact hrd.2.2.symm))
  have HIR : Hid (0 ≤ n → n ≤ 1048576 → ∀ W, Calls Try.prog 16 #[.agg #[.int .i64 b.num, .int .i64 b.den, .int .i64 b.burst, .int .i64 b.lev, .int .i64 b.tm], .int .i64 n] W fun e w' => e = .returned (.tuple #[.int .i64 ra, .bool ru]) ∧ Below W.heap.size W w') := Lib.hid (fun h0 h1 W => by
    have := iReady_any hok h0 h1 W
    rw [hrd] at this
    exact this)
  have HX := Lib.hid (box1 w b)
  have H1 : Hid (∀ W, Calls Try.prog 10 #[.agg #[.int .i64 b.num, .int .i64 b.den, .int .i64 b.burst, .int .i64 b.lev, .int .i64 b.tm], .int .i64 t] W fun e w' => e = .returned (.tuple #[.agg #[.int .i64 f.num, .int .i64 f.den, .int .i64 f.burst, .int .i64 f.lev, .int .i64 f.tm], .int .i64 fe]) ∧ Below W.heap.size W w') := Lib.hid (fun W => by
    have := fill_any b t W
    rw [hf] at this
    exact this)
  have H2 : Hid (∀ W, Calls Try.prog 11 #[.agg #[.int .i64 b.num, .int .i64 b.den, .int .i64 b.burst, .int .i64 b.lev, .int .i64 b.tm], .int .i64 n] W fun e w' => e = .returned (.tuple #[.int .i64 ra, .bool ru, .int .i64 re]) ∧ Below W.heap.size W w') := Lib.hid (fun W => by
    have := ready_any b n W
    rw [hrd] at this
    exact this)
  obtain ⟨M, hM⟩ : ∃ M, b.burst * b.den = M := ⟨_, rfl⟩
  have e1 : wrap64 (b.burst * b.den) = M := by rw [rate_most hrt, hM]
  obtain ⟨nb, hnb⟩ : ∃ nb, nb = Bk.mk b.num b.den b.burst M 0 := ⟨_, rfl⟩
  have H3 : Hid (∀ W, Calls Try.prog 12 #[.int .i64 b.num, .int .i64 b.den, .int .i64 b.burst] W fun e w' => e = .returned (.tuple #[.agg #[.int .i64 nb.num, .int .i64 nb.den, .int .i64 nb.burst, .int .i64 nb.lev, .int .i64 nb.tm], .int .i64 0]) ∧ Below W.heap.size W w') := Lib.hid (fun W => by
    have := full_any b.num b.den b.burst W
    unfold Bk.made at this
    rw [hrt] at this
    rw [hnb, ← hM]
    exact this)
  have H4 : Hid (∀ W, Calls Try.prog 13 #[.agg #[.int .i64 b.num, .int .i64 b.den, .int .i64 b.burst, .int .i64 0, .int .i64 0]] W fun e w' => e = .returned (.bool true) ∧ Below W.heap.size W w') := Lib.hid (fun W => by
    have := iRight_any ⟨b.num, b.den, b.burst, 0, 0⟩ W
    rw [fresh_right, hrt] at this
    exact this)
  have H5 : Hid (∀ W, Calls Try.prog 14 #[.agg #[.int .i64 b.num, .int .i64 b.den, .int .i64 b.burst, .int .i64 b.lev, .int .i64 b.tm]] W fun e w' => e = .returned (.bool true) ∧ Below W.heap.size W w') := Lib.hid (fun W => by
    have := right_any b W
    rw [hr] at this
    exact this)
  have H6 : Hid (∀ W, Calls Try.prog 13 #[.agg #[.int .i64 b.num, .int .i64 b.den, .int .i64 b.burst, .int .i64 b.lev, .int .i64 b.tm]] W fun e w' => e = .returned (.bool true) ∧ Below W.heap.size W w') := Lib.hid (fun W => by
    have := iRight_any b W
    rw [hr] at this
    exact this)
  subst hnb
  dsimp only at H3
  clear hf hrd hrt hr hok hM
  obtain ⟨c0, c1, c2, c3, c4⟩ := HX.out.first.cells
  go_enter Try.func3, Try.ntmps3
  go_upto_region 1 with fail
  change Code.wp _ _ _ _ (one w b)
  generalize one w b = m at *
  go_wp2_with fail
  refine (H1.out _).mono ?_
  rintro e w1 ⟨rfl, hb⟩
  have hl := laidB_at w1 f
  have HX1 := Lib.hid (And.intro ((HX.out.later hb).later hl.2) (And.intro hl.1 (show w.heap.size < w1.heap.size from Nat.lt_of_lt_of_le HX.out.first.lt hb.size)))
  clear HX hb hl H1 c0 c1 c2 c3 c4
  go_upto_region 2 with fail
  change Code.wp _ _ _ _ (laidB w1 f)
  generalize laidB w1 f = w2 at *
  generalize w1.heap.size = g7 at *
  obtain ⟨c0, c1, c2, c3, c4⟩ := HX1.out.1.first.cells
  go_wp2_with fail
  refine (H2.out _).mono ?_
  rintro e w3 ⟨rfl, hb⟩
  have HX2 := Lib.hid (And.intro (HX1.out.1.later hb) (And.intro (HX1.out.2.1.below hb) HX1.out.2.2))
  clear HX1 hb H2 c0 c1 c2 c3 c4
  obtain ⟨c0, c1, c2, c3, c4⟩ := HX2.out.1.first.cells
  go_wp2_with fail
  refine (H3.out _).mono ?_
  rintro e w4 ⟨rfl, hb⟩
  have hl := laidB_at w4 (Bk.mk b.num b.den b.burst M 0)
  have HX3 := Lib.hid (And.intro ((HX2.out.1.later hb).later hl.2) (And.intro ((HX2.out.2.1.below hb).below hl.2) (And.intro hl.1 (And.intro HX2.out.2.2 (show g7 < w4.heap.size from Nat.lt_of_lt_of_le HX2.out.2.1.lt hb.size)))))
  clear HX2 hb hl H3 c0 c1 c2 c3 c4
  go_upto_region 4 with fail
  change Code.wp _ _ _ _ (laidB w4 (Bk.mk b.num b.den b.burst M 0))
  generalize laidB w4 (Bk.mk b.num b.den b.burst M 0) = w5 at *
  generalize w4.heap.size = g12 at *
  obtain ⟨c0, c1, c2, c3, c4⟩ := HX3.out.1.first.cells
  have hl := laidB_at w5 ⟨b.num, b.den, b.burst, 0, 0⟩
  have HF := Lib.hid (FS.mk (w := w) (g7 := g7) (g12 := g12) (g14 := w5.heap.size) (HX3.out.1.later hl.2) (HX3.out.2.1.below hl.2) (HX3.out.2.2.1.below hl.2) hl.1 ⟨HX3.out.2.2.2.1, HX3.out.2.2.2.2, HX3.out.2.2.1.lt⟩)
  clear hl HX3
  go_upto_region 5 with fail
  clear c0 c1 c2 c3 c4
  change Code.wp _ _ _ _ (laidB w5 ⟨b.num, b.den, b.burst, 0, 0⟩)
  generalize laidB w5 ⟨b.num, b.den, b.burst, 0, 0⟩ = w6 at *
  generalize w5.heap.size = g14 at *
  obtain ⟨c0, c1, c2, c3, c4⟩ := HF.out.r.cells
  dsimp only at c0 c1 c2 c3 c4
  go_wp2_with fail
  refine (H4.out _).mono ?_
  rintro e w7 ⟨rfl, hb⟩
  have HF2 := Lib.hid (HF.out.later hb)
  clear HF hb H4 c0 c1 c2 c3 c4
  have hr := HF2.out.r.cells
  dsimp only at hr
  obtain ⟨c0, c1, c2, c3, c4⟩ := HF2.out.box.first.cells
  obtain ⟨d0, d1, d2, d3, d4⟩ := hr
  have f3 := HF2.out.r.frozen 3
  have hl14 := HF2.out.r.lt
  go_upto_region 7 with fail
  have HF3 := Lib.hid (HF2.out.put M)
  clear HF2 c0 c1 c2 c3 c4 d0 d1 d2 d3 d4 f3 hl14
  dsimp only at HF3
  generalize w7.setCell ⟨g14, 3, none⟩ (.int .i64 M) = w8 at *
  have hn := HF3.out.n.cells
  have hr := HF3.out.r.cells
  dsimp only at hn hr
  obtain ⟨c0, c1, c2, c3, c4⟩ := hn
  obtain ⟨d0, d1, d2, d3, d4⟩ := hr
  go_upto_region 11 with fail
  clear c0 c1 c2 c3 c4 d0 d1 d2 d3 d4
  have HB := Lib.hid (And.intro HF3.out.box HF3.out.f)
  clear HF3
  have HS : Hid (∀ W, Below w8.heap.size w8 W → (fun W : World => W.cell? ⟨w.heap.size, 0, none⟩ = some (.int .i64 b.num) ∧ W.cell? ⟨w.heap.size, 1, none⟩ = some (.int .i64 b.den) ∧ W.cell? ⟨w.heap.size, 2, none⟩ = some (.int .i64 b.burst) ∧ W.cell? ⟨w.heap.size, 3, none⟩ = some (.int .i64 b.lev) ∧ W.cell? ⟨w.heap.size, 4, none⟩ = some (.int .i64 b.tm)) W) := Lib.hid (fun W hW => (HB.out.1.later hW).first.cells)
  refine wp_region_held_drew (S := (fun W : World => W.cell? ⟨w.heap.size, 0, none⟩ = some (.int .i64 b.num) ∧ W.cell? ⟨w.heap.size, 1, none⟩ = some (.int .i64 b.den) ∧ W.cell? ⟨w.heap.size, 2, none⟩ = some (.int .i64 b.burst) ∧ W.cell? ⟨w.heap.size, 3, none⟩ = some (.int .i64 b.lev) ∧ W.cell? ⟨w.heap.size, 4, none⟩ = some (.int .i64 b.tm))) (by kernel_rfl) (HS.out _ (Below.refl _ _).drew) (fun hHeld => ?_)
  obtain ⟨w0, hw0⟩ : ∃ W0, W0 = w8.drew := ⟨_, rfl⟩
  have HB0 : Hid (Below w8.heap.size w8 w0) := Lib.hid (by rw [hw0]; exact (Below.refl _ _).drew)
  rw [← hw0] at hHeld ⊢
  clear hw0
  refine wpAnyH_take (i := 0) (v := ?_) (by simp only [List.getElem?_toArray, List.getElem?_cons_zero] <;> rfl) (by kernel_rfl) (by kernel_rfl) (by kernel_rfl) (by exact fun _ _ _ h => h) (Or.inl ⟨by rfl, ?_⟩) hHeld ?_
  rotate_left
  · intro w hSw; (try dsimp only at hSw); go_simp; (try with_reducible rfl)
  (try simp only [Act.put, List.setIfInBounds_toArray, List.set_cons_zero, List.set_cons_succ])
  refine wpAnyH_take (i := 2) (v := ?_) (by simp only [List.getElem?_toArray, List.getElem?_cons_succ, List.getElem?_cons_zero] <;> rfl) (by kernel_rfl) (by kernel_rfl) (by kernel_rfl) (by exact fun _ _ _ h => h) (Or.inl ⟨by rfl, ?_⟩) hHeld ?_
  rotate_left
  · intro w hSw; (try dsimp only at hSw); go_simp; (try with_reducible rfl)
  (try simp only [Act.put, List.setIfInBounds_toArray, List.set_cons_zero, List.set_cons_succ])
  refine wpAnyH_ready (rs := [1]) (by kernel_rfl) (by simp) ?_
  refine AllReadyH.cons (by simp only [List.getElem?_toArray, List.getElem?_cons_succ, List.getElem?_cons_zero] <;> rfl) (fun K hK => ?_) AllReadyH.nil
  go_simp
  go_at_call 14
  refine (H5.out _).mono ?_
  rintro e w1 ⟨rfl, hb1⟩
  have HB1 := Lib.hid (HB0.out.trans (hb1.mono HB0.out.size))
  clear hb1
  go_wp2_with fail
  refine hK.out _ _ ?_ (fun hHeld => ?_)
  · exact HS.out _ HB1.out
  clear hK K
  (try simp only [Act.put, List.setIfInBounds_toArray, List.set_cons_zero, List.set_cons_succ])
  refine wpAnyH_ready (rs := [3]) (by kernel_rfl) (by simp) ?_
  refine AllReadyH.cons (by simp only [List.getElem?_toArray, List.getElem?_cons_succ, List.getElem?_cons_zero] <;> rfl) (fun K hK => ?_) AllReadyH.nil
  go_simp
  go_at_call 13
  refine (H6.out _).mono ?_
  rintro e w2 ⟨rfl, hb2⟩
  have HB2 := Lib.hid (HB1.out.trans (hb2.mono HB1.out.size))
  clear hb2
  go_wp2_with fail
  refine hK.out _ _ ?_ (fun hHeld => ?_)
  · exact HS.out _ HB2.out
  clear hK K
  (try simp only [Act.put, List.setIfInBounds_toArray, List.set_cons_zero, List.set_cons_succ])
  refine wpAnyH_take (i := 4) (v := ?_) (by simp only [List.getElem?_toArray, List.getElem?_cons_succ, List.getElem?_cons_zero] <;> rfl) (by kernel_rfl) (by kernel_rfl) (by kernel_rfl) (by exact fun _ _ _ h => h) (Or.inl ⟨by rfl, ?_⟩) hHeld ?_
  rotate_left
  · intro w hSw; (try dsimp only at hSw); go_simp; (try with_reducible rfl)
  (try simp only [Act.put, List.setIfInBounds_toArray, List.set_cons_zero, List.set_cons_succ])
  refine wpAnyH_done (by kernel_rfl) ?_ _
  have HC := Lib.hid (And.intro (HB.out.1.later HB2.out) (HB.out.2.below HB2.out))
  clear HB HB0 HB1 HB2 HS hHeld H5
  obtain ⟨c0, c1, c2, c3, c4⟩ := HC.out.1.first.cells
  go_wp2_with fail
  refine (H6.out _).mono ?_
  rintro e wa ⟨rfl, hb⟩
  have HD := Lib.hid (And.intro (HC.out.1.later hb) (HC.out.2.below hb))
  clear HC hb c0 c1 c2 c3 c4
  have htt : t < b.tm ∨ (¬ t < b.tm ∧ 1099511627776 < t) ∨ (b.tm ≤ t ∧ t ≤ 1099511627776) := by omega
  have hnn : n < 0 ∨ (¬ n < 0 ∧ 1048576 < n) ∨ (0 ≤ n ∧ n ≤ 1048576) := by omega
  have HNN := Lib.hid hnn
  clear hnn
  rcases htt with t1 | ⟨t1, t2⟩ | ⟨t1, t2⟩
  · obtain ⟨rfl, rfl⟩ := HFO.out (.inl t1)
    obtain ⟨c0, c1, c2, c3, c4⟩ := HD.out.1.first.cells
    have hz := HD.out.2.cells
    unfold Bk.zero at hz
    dsimp only at hz
    obtain ⟨d0, d1, d2, d3, d4⟩ := hz
    go_upto_region 22 with fail
    have HG := Lib.hid HD.out.1
    clear HD c0 c1 c2 c3 c4 d0 d1 d2 d3 d4
    have hnn := HNN.out
    clear HNN
    rcases hnn with k1 | ⟨k1, k2⟩ | ⟨k1, k2⟩
    · have hq := HRO.out (.inl k1)
      obtain ⟨rfl, rfl, rfl⟩ := hq
      clear HRO HRI HFO HFI HLV HIR
      go_wp2_with fail
      go_ret
      exact ⟨by simp, HG.out.below⟩
    · have k1' : decide (n < 0) = false := decide_eq_false (by omega)
      have hq := HRO.out (.inr k2)
      obtain ⟨rfl, rfl, rfl⟩ := hq
      clear HRO HRI HFO HFI HLV HIR
      go_wp2_with fail
      go_ret
      exact ⟨by simp, HG.out.below⟩
    · have hq := HRI.out k1 k2
      have HQ := Lib.hid (HIR.out k1 k2)
      have k1' : decide (n < 0) = false := decide_eq_false (by omega)
      have k2' : decide (1048576 < n) = false := decide_eq_false (by omega)
      subst hq
      clear HRO HRI HFO HFI HLV HIR k1 k2
      obtain ⟨c0, c1, c2, c3, c4⟩ := HG.out.first.cells
      go_wp2_with fail
      refine (HQ.out _).mono ?_
      rintro e wz ⟨rfl, hb⟩
      have HH := Lib.hid (HG.out.later hb)
      clear HG hb HQ c0 c1 c2 c3 c4
      go_wp2_with fail
      go_ret
      exact ⟨by simp, HH.out.below⟩
  · have t1' : decide (t < b.tm) = false := decide_eq_false (by omega)
    obtain ⟨rfl, rfl⟩ := HFO.out (.inr t2)
    obtain ⟨c0, c1, c2, c3, c4⟩ := HD.out.1.first.cells
    have hz := HD.out.2.cells
    unfold Bk.zero at hz
    dsimp only at hz
    obtain ⟨d0, d1, d2, d3, d4⟩ := hz
    go_upto_region 22 with fail
    have HG := Lib.hid HD.out.1
    clear HD c0 c1 c2 c3 c4 d0 d1 d2 d3 d4
    have hnn := HNN.out
    clear HNN
    rcases hnn with k1 | ⟨k1, k2⟩ | ⟨k1, k2⟩
    · have hq := HRO.out (.inl k1)
      obtain ⟨rfl, rfl, rfl⟩ := hq
      clear HRO HRI HFO HFI HLV HIR
      go_wp2_with fail
      go_ret
      exact ⟨by simp, HG.out.below⟩
    · have k1' : decide (n < 0) = false := decide_eq_false (by omega)
      have hq := HRO.out (.inr k2)
      obtain ⟨rfl, rfl, rfl⟩ := hq
      clear HRO HRI HFO HFI HLV HIR
      go_wp2_with fail
      go_ret
      exact ⟨by simp, HG.out.below⟩
    · have hq := HRI.out k1 k2
      have HQ := Lib.hid (HIR.out k1 k2)
      have k1' : decide (n < 0) = false := decide_eq_false (by omega)
      have k2' : decide (1048576 < n) = false := decide_eq_false (by omega)
      subst hq
      clear HRO HRI HFO HFI HLV HIR k1 k2
      obtain ⟨c0, c1, c2, c3, c4⟩ := HG.out.first.cells
      go_wp2_with fail
      refine (HQ.out _).mono ?_
      rintro e wz ⟨rfl, hb⟩
      have HH := Lib.hid (HG.out.later hb)
      clear HG hb HQ c0 c1 c2 c3 c4
      go_wp2_with fail
      go_ret
      exact ⟨by simp, HH.out.below⟩
  · obtain ⟨rfl, rfl⟩ := HFI.out t1 t2
    have HL2 := Lib.hid (HLV.out t1 t2)
    have t1' : decide (t < b.tm) = false := decide_eq_false (by omega)
    have t2' : decide (1099511627776 < t) = false := decide_eq_false (by omega)
    generalize b.level t = L at *
    obtain ⟨c0, c1, c2, c3, c4⟩ := HD.out.1.first.cells
    have hl := laidB_at wa b
    have HE := Lib.hid (And.intro (HD.out.1.later hl.2) (And.intro (HD.out.2.below hl.2) (And.intro hl.1 (And.intro HD.out.2.lt (show w.heap.size < wa.heap.size from HD.out.1.first.lt)))))
    clear t1 t2 hl HD
    go_upto_region 19 with fail
    clear c0 c1 c2 c3 c4
    change Code.wp _ _ _ _ (laidB wa b)
    generalize laidB wa b = wb at *
    generalize wa.heap.size = g15 at *
    obtain ⟨c0, c1, c2, c3, c4⟩ := HE.out.1.first.cells
    go_wp2_with fail
    refine (HL2.out _).mono ?_
    rintro e wc ⟨rfl, hb⟩
    have hbk := HE.out.2.2.1.below hb
    obtain ⟨d0, d1, d2, d3, d4⟩ := hbk.cells
    have f3 := hbk.frozen 3
    have f4 := hbk.frozen 4
    have hl15 := hbk.lt
    have HG2 := Lib.hid (show BkAt ((wc.setCell ⟨g15, 3, none⟩ (.int .i64 L)).setCell ⟨g15, 4, none⟩ (.int .i64 t)) g15 ⟨b.num, b.den, b.burst, L, t⟩ from (hbk.lev L).tm t)
    have HG3 := Lib.hid (show BkAt ((wc.setCell ⟨g15, 3, none⟩ (.int .i64 L)).setCell ⟨g15, 4, none⟩ (.int .i64 t)) g7 ⟨b.num, b.den, b.burst, L, t⟩ from ((HE.out.2.1.below hb).other _ _ (by show g7 ≠ g15; have := HE.out.2.2.2.1; omega)).other _ _ (by show g7 ≠ g15; have := HE.out.2.2.2.1; omega))
    have HG : Hid (Box1 w ((wc.setCell ⟨g15, 3, none⟩ (.int .i64 L)).setCell ⟨g15, 4, none⟩ (.int .i64 t)) b) := Lib.hid ⟨(((HE.out.1.later hb).below).setCell (by show w.heap.size ≤ g15; have := HE.out.2.2.2.2; omega) _).setCell (by show w.heap.size ≤ g15; have := HE.out.2.2.2.2; omega) _, (((HE.out.1.later hb).first).other _ _ (by show w.heap.size ≠ g15; have := HE.out.2.2.2.2; omega)).other _ _ (by show w.heap.size ≠ g15; have := HE.out.2.2.2.2; omega)⟩
    clear hbk hb HE c0 c1 c2 c3 c4 HL2
    go_upto_region 20 with fail
    clear d0 d1 d2 d3 d4 f3 f4 hl15
    generalize (wc.setCell ⟨g15, 3, none⟩ (.int .i64 L)).setCell ⟨g15, 4, none⟩ (.int .i64 t) = wd at *
    obtain ⟨c0, c1, c2, c3, c4⟩ := HG2.out.cells
    obtain ⟨d0, d1, d2, d3, d4⟩ := HG3.out.cells
    dsimp only at c0 c1 c2 c3 c4 d0 d1 d2 d3 d4
    go_upto_region 22 with fail
    clear HG2 HG3 c0 c1 c2 c3 c4 d0 d1 d2 d3 d4
    have hnn := HNN.out
    clear HNN
    rcases hnn with k1 | ⟨k1, k2⟩ | ⟨k1, k2⟩
    · have hq := HRO.out (.inl k1)
      obtain ⟨rfl, rfl, rfl⟩ := hq
      clear HRO HRI HFO HFI HLV HIR
      go_wp2_with fail
      go_ret
      exact ⟨by simp, HG.out.below⟩
    · have k1' : decide (n < 0) = false := decide_eq_false (by omega)
      have hq := HRO.out (.inr k2)
      obtain ⟨rfl, rfl, rfl⟩ := hq
      clear HRO HRI HFO HFI HLV HIR
      go_wp2_with fail
      go_ret
      exact ⟨by simp, HG.out.below⟩
    · have hq := HRI.out k1 k2
      have HQ := Lib.hid (HIR.out k1 k2)
      have k1' : decide (n < 0) = false := decide_eq_false (by omega)
      have k2' : decide (1048576 < n) = false := decide_eq_false (by omega)
      subst hq
      clear HRO HRI HFO HFI HLV HIR k1 k2
      obtain ⟨c0, c1, c2, c3, c4⟩ := HG.out.first.cells
      go_wp2_with fail
      refine (HQ.out _).mono ?_
      rintro e wz ⟨rfl, hb⟩
      have HH := Lib.hid (HG.out.later hb)
      clear HG hb HQ c0 c1 c2 c3 c4
      go_wp2_with fail
      go_ret
      exact ⟨by simp, HH.out.below⟩

theorem fills_law (b : Bk) (t n : Int) (w : World) :
    Calls Try.prog 3 #[.agg #[.int .i64 b.num, .int .i64 b.den, .int .i64 b.burst, .int .i64 b.lev, .int .i64 b.tm], .int .i64 t, .int .i64 n] w fun e w' => e = .returned (.bool true) ∧ Below w.heap.size w w' := by
  cases hr : b.right with
  | true => exact fills_good b t n hr w
  | false =>
    cases hrt : rate b.num b.den b.burst with
    | true => exact fills_bad b t n hrt hr w
    | false => exact fills_norate b t n hrt hr w
end Go.Proofs.Ytkcfhjbppnchoaa
