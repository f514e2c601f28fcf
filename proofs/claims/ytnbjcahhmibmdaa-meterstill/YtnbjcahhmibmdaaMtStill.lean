/- What is red takes nothing: the walk. -/
import Derived.Test.YtnbjcahhmibmdaaMtSum
namespace Go.Proofs.Ytnbjcahhmibmdaa
open Go.RowKit Go.Maps

/-- A meter's box, and two shots' behind it. -/
structure BoxTwo (w W : World) (b : Mt) (t n u k : Int) : Prop where
  below : Below w.heap.size w W
  first : MtAt W w.heap.size b
  shot : ShotAt W (w.heap.size + 1) t n
  next : ShotAt W (w.heap.size + 1 + 1) u k
def boxTwo (w : World) (b : Mt) (t n u k : Int) : World := ((w.alloc (.cells #[.int .i64 b.rate, .int .i64 b.burst, .int .i64 b.exc, .int .i64 b.fst, .int .i64 b.snd, .int .i64 b.tm] 23)).alloc (.cells #[.int .i64 t, .int .i64 n] 25)).alloc (.cells #[.int .i64 u, .int .i64 k] 25)
theorem boxTwo_at (w : World) (b : Mt) (t n u k : Int) : BoxTwo w (boxTwo w b t n u k) b t n u k := by
  have b1 : Below w.heap.size w (w.alloc (.cells b.cells 23)) := (Below.refl _ _).alloc (Nat.le_refl _) _
  have b2 := b1.alloc b1.size (.cells #[.int .i64 t, .int .i64 n] 25)
  have b3 := b2.alloc b2.size (.cells #[.int .i64 u, .int .i64 k] 25)
  refine ⟨b3, ?_, ?_, ?_⟩
  · unfold MtAt boxTwo
    rw [Below.heap_alloc _ _ _ (by simp; omega), Below.heap_alloc _ _ _ (by simp)]
    exact heap_alloc_new w _
  · unfold ShotAt boxTwo
    rw [Below.heap_alloc _ _ _ (by simp)]
    have : w.heap.size + 1 = (w.alloc (.cells #[.int .i64 b.rate, .int .i64 b.burst, .int .i64 b.exc, .int .i64 b.fst, .int .i64 b.snd, .int .i64 b.tm] 23)).heap.size := by simp
    rw [this]
    exact heap_alloc_new _ _
  · unfold ShotAt boxTwo
    have : w.heap.size + 1 + 1 = ((w.alloc (.cells #[.int .i64 b.rate, .int .i64 b.burst, .int .i64 b.exc, .int .i64 b.fst, .int .i64 b.snd, .int .i64 b.tm] 23)).alloc (.cells #[.int .i64 t, .int .i64 n] 25)).heap.size := by simp
    rw [this]
    exact heap_alloc_new _ _
theorem BoxTwo.later {w W W' : World} {b : Mt} {t n u k : Int} (h : BoxTwo w W b t n u k) (hb : Below W.heap.size W W') : BoxTwo w W' b t n u k := ⟨h.below.trans (hb.mono h.below.size), h.first.below hb, h.shot.below hb, h.next.below hb⟩

set_option maxRecDepth 100000 in
set_option maxHeartbeats 8000000 in
theorem still_else {b : Mt} {t n : Int} {m0 : Mt} {c e0 : Int} (hX : b.colour t n 1 = (m0, c, e0)) (hc : e0 ≠ 0 ∨ (e0 = 0 ∧ c ≠ 3)) (u k : Int) (w : World) :
    Calls Try.prog 7 #[.agg b.cells, .agg #[.int .i64 t, .int .i64 n], .agg #[.int .i64 u, .int .i64 k]] w fun e w' => e = .returned (.bool true) ∧ Below w.heap.size w w' := by
  have HC := Lib.hid (fun W => colour_any b t n 1 W)
  rw [hX] at HC
  unfold Told at HC
  dsimp only at HC
  clear hX
  have HX := Lib.hid (boxTwo_at w b t n u k)
  have HA := Lib.hid (fun W => alive10_any W)
  unfold Mt.cells at HC ⊢
  go_enter Try.func7, Try.ntmps7
  go_upto_region 1 with fail
  change Code.wp _ _ _ _ (boxTwo w b t n u k)
  generalize boxTwo w b t n u k = m at *
  go_wp2_with fail
  refine (HA.out _).mono ?_
  rintro e w1 ⟨rfl, hb⟩
  have HX1 := Lib.hid (HX.out.later hb)
  clear HX HA hb
  obtain ⟨⟨c0, c1, c2, c3, c4, c5⟩, ⟨s0, s1⟩, u0, u1⟩ := And.intro HX1.out.first.cells (And.intro HX1.out.shot.cells HX1.out.next.cells)
  go_wp2_with fail
  refine (HC.out _).mono ?_
  rintro e w2 ⟨rfl, hb⟩
  have hl := laidM_at w2 m0
  have HX2 := Lib.hid ((HX1.out.later hb).later hl.2)
  clear HX1 HC hb hl c0 c1 c2 c3 c4 c5 s0 s1 u0 u1
  rcases hc with hc | ⟨rfl, hc⟩
  all_goals
    go_upto_region 4 with fail
    change Code.wp _ _ _ _ (laidM w2 m0)
    generalize laidM w2 m0 = w3 at *
    go_wp2_with fail
    go_ret
    exact ⟨by simp, HX2.out.below⟩

set_option maxRecDepth 100000 in
set_option maxHeartbeats 8000000 in
theorem still_late {b : Mt} {t n u k : Int} (hX : b.colour t n 1 = (b.fill t, 3, 0)) {m1 m2 : Mt} {x y f h : Int} (hY : (b.fill t).colour u k 1 = (m1, x, f)) (hf : f ≠ 0) (hW : b.colour u k 1 = (m2, y, h)) (w : World) :
    Calls Try.prog 7 #[.agg b.cells, .agg #[.int .i64 t, .int .i64 n], .agg #[.int .i64 u, .int .i64 k]] w fun e w' => e = .returned (.bool true) ∧ Below w.heap.size w w' := by
  have HC := Lib.hid (fun W => colour_any b t n 1 W)
  rw [hX] at HC
  unfold Told at HC
  dsimp only at HC
  have HD := Lib.hid (fun W => colour_any (b.fill t) u k 1 W)
  rw [hY] at HD
  unfold Told at HD
  dsimp only at HD
  have HE := Lib.hid (fun W => colour_any b u k 1 W)
  rw [hW] at HE
  unfold Told at HE
  dsimp only at HE
  clear hX hY hW
  generalize b.fill t = m0 at *
  have HX := Lib.hid (boxTwo_at w b t n u k)
  have HA := Lib.hid (fun W => alive10_any W)
  unfold Mt.cells at HC HD HE ⊢
  go_enter Try.func7, Try.ntmps7
  go_upto_region 1 with fail
  change Code.wp _ _ _ _ (boxTwo w b t n u k)
  generalize boxTwo w b t n u k = m at *
  go_wp2_with fail
  refine (HA.out _).mono ?_
  rintro e w1 ⟨rfl, hb⟩
  have HX1 := Lib.hid (HX.out.later hb)
  clear HX HA hb
  obtain ⟨⟨c0, c1, c2, c3, c4, c5⟩, ⟨s0, s1⟩, u0, u1⟩ := And.intro HX1.out.first.cells (And.intro HX1.out.shot.cells HX1.out.next.cells)
  go_wp2_with fail
  refine (HC.out _).mono ?_
  rintro e w2 ⟨rfl, hb⟩
  have hl := laidM_at w2 m0
  have HX2 := Lib.hid ((HX1.out.later hb).later hl.2)
  have HN := Lib.hid hl.1
  clear HX1 HC hb hl c0 c1 c2 c3 c4 c5 s0 s1 u0 u1
  go_upto_region 4 with fail
  change Code.wp _ _ _ _ (laidM w2 m0)
  generalize laidM w2 m0 = w3 at *
  generalize w2.heap.size = g0 at *
  obtain ⟨d0, d1, d2, d3, d4, d5⟩ := HN.out.cells
  obtain ⟨⟨c0, c1, c2, c3, c4, c5⟩, ⟨s0, s1⟩, u0, u1⟩ := And.intro HX2.out.first.cells (And.intro HX2.out.shot.cells HX2.out.next.cells)
  go_wp2_with fail
  refine (HD.out _).mono ?_
  rintro e w4 ⟨rfl, hb⟩
  have hl := laidM_at w4 m1
  have HX3 := Lib.hid ((HX2.out.later hb).later hl.2)
  have HN1 := Lib.hid (And.intro ((HN.out.below hb).below hl.2) hl.1)
  clear HX2 HD hb hl HN c0 c1 c2 c3 c4 c5 s0 s1 u0 u1 d0 d1 d2 d3 d4 d5
  go_upto_region 7 with fail
  change Code.wp _ _ _ _ (laidM w4 m1)
  generalize laidM w4 m1 = w5 at *
  generalize w4.heap.size = g1 at *
  obtain ⟨⟨c0, c1, c2, c3, c4, c5⟩, ⟨s0, s1⟩, u0, u1⟩ := And.intro HX3.out.first.cells (And.intro HX3.out.shot.cells HX3.out.next.cells)
  go_wp2_with fail
  refine (HE.out _).mono ?_
  rintro e w6 ⟨rfl, hb⟩
  have hl := laidM_at w6 m2
  have HX4 := Lib.hid ((HX3.out.later hb).later hl.2)
  have HN2 := Lib.hid (And.intro ((HN1.out.2.below hb).below hl.2) hl.1)
  clear HX3 HE hb hl HN1 c0 c1 c2 c3 c4 c5 s0 s1 u0 u1
  go_upto_region 8 with fail
  change Code.wp _ _ _ _ (laidM w6 m2)
  generalize laidM w6 m2 = w7 at *
  generalize w6.heap.size = g2 at *
  go_wp2_with fail
  go_ret
  exact ⟨by simp, HX4.out.below⟩

set_option maxRecDepth 100000 in
set_option maxHeartbeats 8000000 in
theorem still_good {b : Mt} {t n u k : Int} (hX : b.colour t n 1 = (b.fill t, 3, 0)) {m1 : Mt} {x : Int} (hY : (b.fill t).colour u k 1 = (m1, x, 0)) (hW : b.colour u k 1 = (m1, x, 0)) (w : World) :
    Calls Try.prog 7 #[.agg b.cells, .agg #[.int .i64 t, .int .i64 n], .agg #[.int .i64 u, .int .i64 k]] w fun e w' => e = .returned (.bool true) ∧ Below w.heap.size w w' := by
  have HC := Lib.hid (fun W => colour_any b t n 1 W)
  rw [hX] at HC
  unfold Told at HC
  dsimp only at HC
  have HD := Lib.hid (fun W => colour_any (b.fill t) u k 1 W)
  rw [hY] at HD
  unfold Told at HD
  dsimp only at HD
  have HE := Lib.hid (fun W => colour_any b u k 1 W)
  rw [hW] at HE
  unfold Told at HE
  dsimp only at HE
  clear hX hY hW
  generalize b.fill t = m0 at *
  have HX := Lib.hid (boxTwo_at w b t n u k)
  have HA := Lib.hid (fun W => alive10_any W)
  unfold Mt.cells at HC HD HE ⊢
  go_enter Try.func7, Try.ntmps7
  go_upto_region 1 with fail
  change Code.wp _ _ _ _ (boxTwo w b t n u k)
  generalize boxTwo w b t n u k = m at *
  go_wp2_with fail
  refine (HA.out _).mono ?_
  rintro e w1 ⟨rfl, hb⟩
  have HX1 := Lib.hid (HX.out.later hb)
  clear HX HA hb
  obtain ⟨⟨c0, c1, c2, c3, c4, c5⟩, ⟨s0, s1⟩, u0, u1⟩ := And.intro HX1.out.first.cells (And.intro HX1.out.shot.cells HX1.out.next.cells)
  go_wp2_with fail
  refine (HC.out _).mono ?_
  rintro e w2 ⟨rfl, hb⟩
  have hl := laidM_at w2 m0
  have HX2 := Lib.hid ((HX1.out.later hb).later hl.2)
  have HN := Lib.hid hl.1
  clear HX1 HC hb hl c0 c1 c2 c3 c4 c5 s0 s1 u0 u1
  go_upto_region 4 with fail
  change Code.wp _ _ _ _ (laidM w2 m0)
  generalize laidM w2 m0 = w3 at *
  generalize w2.heap.size = g0 at *
  obtain ⟨d0, d1, d2, d3, d4, d5⟩ := HN.out.cells
  obtain ⟨⟨c0, c1, c2, c3, c4, c5⟩, ⟨s0, s1⟩, u0, u1⟩ := And.intro HX2.out.first.cells (And.intro HX2.out.shot.cells HX2.out.next.cells)
  go_wp2_with fail
  refine (HD.out _).mono ?_
  rintro e w4 ⟨rfl, hb⟩
  have hl := laidM_at w4 m1
  have HX3 := Lib.hid ((HX2.out.later hb).later hl.2)
  have HN1 := Lib.hid (And.intro ((HN.out.below hb).below hl.2) hl.1)
  clear HX2 HD hb hl HN c0 c1 c2 c3 c4 c5 s0 s1 u0 u1 d0 d1 d2 d3 d4 d5
  go_upto_region 7 with fail
  change Code.wp _ _ _ _ (laidM w4 m1)
  generalize laidM w4 m1 = w5 at *
  generalize w4.heap.size = g1 at *
  obtain ⟨⟨c0, c1, c2, c3, c4, c5⟩, ⟨s0, s1⟩, u0, u1⟩ := And.intro HX3.out.first.cells (And.intro HX3.out.shot.cells HX3.out.next.cells)
  go_wp2_with fail
  refine (HE.out _).mono ?_
  rintro e w6 ⟨rfl, hb⟩
  have hl := laidM_at w6 m1
  have HX4 := Lib.hid ((HX3.out.later hb).later hl.2)
  have HN2 := Lib.hid (And.intro ((HN1.out.2.below hb).below hl.2) hl.1)
  clear HX3 HE hb hl HN1 c0 c1 c2 c3 c4 c5 s0 s1 u0 u1
  go_upto_region 8 with fail
  change Code.wp _ _ _ _ (laidM w6 m1)
  generalize laidM w6 m1 = w7 at *
  generalize w6.heap.size = g2 at *
  obtain ⟨⟨c0, c1, c2, c3, c4, c5⟩, d0, d1, d2, d3, d4, d5⟩ := And.intro HN2.out.1.cells HN2.out.2.cells
  go_wp2_with fail
  go_ret
  exact ⟨by simp, HX4.out.below⟩

theorem still_law (b : Mt) (t n u k : Int) (w : World) :
    Calls Try.prog 7 #[.agg b.cells, .agg #[.int .i64 t, .int .i64 n], .agg #[.int .i64 u, .int .i64 k]] w fun e w' => e = .returned (.bool true) ∧ Below w.heap.size w w' := by
  rcases still_ways b t n with ⟨m, c, e, hX, hc⟩ | ⟨hok, t0, t1, hX⟩
  · exact still_else hX hc u k w
  · obtain ⟨m1, x, f, hY⟩ : ∃ m1 x f, (b.fill t).colour u k 1 = (m1, x, f) := ⟨_, _, _, rfl⟩
    by_cases hf : f = 0
    · subst hf
      exact still_good hX hY (still_same hok t0 t1 hY) w
    · exact still_late hX hY hf rfl w
end Go.Proofs.Ytnbjcahhmibmdaa
