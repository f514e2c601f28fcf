/- A green or yellow packet takes just its bytes: the walk. -/
import Derived.Test.YtnbjcahhmibmdaaMt7
import Derived.Test.YtnbjcahhmibmdaaMtKeep
namespace Go.Proofs.Ytnbjcahhmibmdaa
open Go.RowKit Go.Maps

set_option maxRecDepth 100000 in
set_option maxHeartbeats 8000000 in
theorem sum_bad {b : Mt} {n : Int} {c : Int} (hc : c ≠ 0) (hX : b.colour b.tm n 1 = (Mt.zero, 0, c)) (w : World) :
    Calls Try.prog 8 #[.agg b.cells, .int .i64 n] w fun e w' => e = .returned (.bool true) ∧ Below w.heap.size w w' := by
  have hc' : (c != 0) = true := by simpa using hc
  have HX := Lib.hid (laidM_at w b)
  have HA := Lib.hid (fun W => alive10_any W)
  have HC := Lib.hid (fun W => colour_any b b.tm n 1 W)
  rw [hX] at HC
  unfold Told at HC
  dsimp only at HC
  unfold Mt.cells at HC ⊢
  clear hX
  go_enter Try.func8, Try.ntmps8
  go_upto_region 1 with fail
  change Code.wp _ _ _ _ (laidM w b)
  generalize laidM w b = m at *
  go_wp2_with fail
  refine (HA.out _).mono ?_
  rintro e w1 ⟨rfl, hb⟩
  have HX1 := Lib.hid (And.intro (HX.out.1.below hb) (HX.out.2.trans (hb.mono HX.out.2.size)))
  clear HX HA hb
  obtain ⟨c0, c1, c2, c3, c4, c5⟩ := HX1.out.1.cells
  go_wp2_with fail
  refine (HC.out _).mono ?_
  rintro e w2 ⟨rfl, hb⟩
  have hl := laidM_at w2 Mt.zero
  have HX2 := Lib.hid (And.intro ((HX1.out.1.below hb).below hl.2) (And.intro hl.1 ((HX1.out.2.trans (hb.mono HX1.out.2.size)).trans (hl.2.mono (Nat.le_trans HX1.out.2.size hb.size)))))
  clear HX1 HC hb hl c0 c1 c2 c3 c4 c5
  go_upto_region 4 with fail
  change Code.wp _ _ _ _ (laidM w2 Mt.zero)
  generalize laidM w2 Mt.zero = w3 at *
  generalize w2.heap.size = g at *
  have hd := HX2.out.2.1.cells
  (try dsimp only [Mt.zero] at hd)
  obtain ⟨d0, d1, d2, d3, d4, d5⟩ := hd
  obtain ⟨c0, c1, c2, c3, c4, c5⟩ := HX2.out.1.cells
  go_wp2_with fail
  go_ret
  exact ⟨by simp, HX2.out.2.2⟩

set_option maxRecDepth 100000 in
set_option maxHeartbeats 8000000 in
theorem sum_green {b : Mt} {n : Int} (hok : b.Ok) (n0 : 0 ≤ n) (n1 : n ≤ 1048576) (hX : b.colour b.tm n 1 = (⟨b.rate, b.burst, b.exc, b.fst - n, b.snd, b.tm⟩, 1, 0)) (w : World) :
    Calls Try.prog 8 #[.agg b.cells, .int .i64 n] w fun e w' => e = .returned (.bool true) ∧ Below w.heap.size w w' := by
  obtain ⟨N, e1, hN⟩ : ∃ N, wrap64 (b.fst - n) = N ∧ b.fst - n = N := ⟨_, w64 (by have := hok.f0; have := hok.f1; have := hok.s0; have := hok.s1; have := hok.b1; have := hok.e1; omega) (by have := hok.f0; have := hok.f1; have := hok.s0; have := hok.s1; have := hok.b1; have := hok.e1; omega), rfl⟩
  rw [hN] at hX
  clear hN hok n0 n1
  have HX := Lib.hid (laidM_at w b)
  have HA := Lib.hid (fun W => alive10_any W)
  have HC := Lib.hid (fun W => colour_any b b.tm n 1 W)
  rw [hX] at HC
  unfold Told at HC
  dsimp only at HC
  unfold Mt.cells at HC ⊢
  clear hX
  go_enter Try.func8, Try.ntmps8
  go_upto_region 1 with fail
  change Code.wp _ _ _ _ (laidM w b)
  generalize laidM w b = m at *
  go_wp2_with fail
  refine (HA.out _).mono ?_
  rintro e w1 ⟨rfl, hb⟩
  have HX1 := Lib.hid (And.intro (HX.out.1.below hb) (HX.out.2.trans (hb.mono HX.out.2.size)))
  clear HX HA hb
  obtain ⟨c0, c1, c2, c3, c4, c5⟩ := HX1.out.1.cells
  go_wp2_with fail
  refine (HC.out _).mono ?_
  rintro e w2 ⟨rfl, hb⟩
  have hl := laidM_at w2 ⟨b.rate, b.burst, b.exc, N, b.snd, b.tm⟩
  have HX2 := Lib.hid (And.intro ((HX1.out.1.below hb).below hl.2) (And.intro hl.1 ((HX1.out.2.trans (hb.mono HX1.out.2.size)).trans (hl.2.mono (Nat.le_trans HX1.out.2.size hb.size)))))
  clear HX1 HC hb hl c0 c1 c2 c3 c4 c5
  go_upto_region 4 with fail
  change Code.wp _ _ _ _ (laidM w2 ⟨b.rate, b.burst, b.exc, N, b.snd, b.tm⟩)
  generalize laidM w2 ⟨b.rate, b.burst, b.exc, N, b.snd, b.tm⟩ = w3 at *
  generalize w2.heap.size = g at *
  have hd := HX2.out.2.1.cells
  (try dsimp only [Mt.zero] at hd)
  obtain ⟨d0, d1, d2, d3, d4, d5⟩ := hd
  obtain ⟨c0, c1, c2, c3, c4, c5⟩ := HX2.out.1.cells
  go_wp2_with fail
  go_ret
  exact ⟨by simp, HX2.out.2.2⟩

set_option maxRecDepth 100000 in
set_option maxHeartbeats 8000000 in
theorem sum_yellow {b : Mt} {n : Int} (hok : b.Ok) (n0 : 0 ≤ n) (n1 : n ≤ 1048576) (hf : b.fst < n) (hX : b.colour b.tm n 1 = (⟨b.rate, b.burst, b.exc, b.fst, b.snd - n, b.tm⟩, 2, 0)) (w : World) :
    Calls Try.prog 8 #[.agg b.cells, .int .i64 n] w fun e w' => e = .returned (.bool true) ∧ Below w.heap.size w w' := by
  obtain ⟨N, e1, hN⟩ : ∃ N, wrap64 (b.snd - n) = N ∧ b.snd - n = N := ⟨_, w64 (by have := hok.f0; have := hok.f1; have := hok.s0; have := hok.s1; have := hok.b1; have := hok.e1; omega) (by have := hok.f0; have := hok.f1; have := hok.s0; have := hok.s1; have := hok.b1; have := hok.e1; omega), rfl⟩
  rw [hN] at hX
  clear hN hok n0 n1
  have HX := Lib.hid (laidM_at w b)
  have HA := Lib.hid (fun W => alive10_any W)
  have HC := Lib.hid (fun W => colour_any b b.tm n 1 W)
  rw [hX] at HC
  unfold Told at HC
  dsimp only at HC
  unfold Mt.cells at HC ⊢
  clear hX
  go_enter Try.func8, Try.ntmps8
  go_upto_region 1 with fail
  change Code.wp _ _ _ _ (laidM w b)
  generalize laidM w b = m at *
  go_wp2_with fail
  refine (HA.out _).mono ?_
  rintro e w1 ⟨rfl, hb⟩
  have HX1 := Lib.hid (And.intro (HX.out.1.below hb) (HX.out.2.trans (hb.mono HX.out.2.size)))
  clear HX HA hb
  obtain ⟨c0, c1, c2, c3, c4, c5⟩ := HX1.out.1.cells
  go_wp2_with fail
  refine (HC.out _).mono ?_
  rintro e w2 ⟨rfl, hb⟩
  have hl := laidM_at w2 ⟨b.rate, b.burst, b.exc, b.fst, N, b.tm⟩
  have HX2 := Lib.hid (And.intro ((HX1.out.1.below hb).below hl.2) (And.intro hl.1 ((HX1.out.2.trans (hb.mono HX1.out.2.size)).trans (hl.2.mono (Nat.le_trans HX1.out.2.size hb.size)))))
  clear HX1 HC hb hl c0 c1 c2 c3 c4 c5
  go_upto_region 4 with fail
  change Code.wp _ _ _ _ (laidM w2 ⟨b.rate, b.burst, b.exc, b.fst, N, b.tm⟩)
  generalize laidM w2 ⟨b.rate, b.burst, b.exc, b.fst, N, b.tm⟩ = w3 at *
  generalize w2.heap.size = g at *
  have hd := HX2.out.2.1.cells
  (try dsimp only [Mt.zero] at hd)
  obtain ⟨d0, d1, d2, d3, d4, d5⟩ := hd
  obtain ⟨c0, c1, c2, c3, c4, c5⟩ := HX2.out.1.cells
  go_wp2_with fail
  go_ret
  exact ⟨by simp, HX2.out.2.2⟩

set_option maxRecDepth 100000 in
set_option maxHeartbeats 8000000 in
theorem sum_red {b : Mt} {n : Int} (hf : b.fst < n) (hs : b.snd < n) (hX : b.colour b.tm n 1 = (b, 3, 0)) (w : World) :
    Calls Try.prog 8 #[.agg b.cells, .int .i64 n] w fun e w' => e = .returned (.bool true) ∧ Below w.heap.size w w' := by
  have HX := Lib.hid (laidM_at w b)
  have HA := Lib.hid (fun W => alive10_any W)
  have HC := Lib.hid (fun W => colour_any b b.tm n 1 W)
  rw [hX] at HC
  unfold Told at HC
  dsimp only at HC
  unfold Mt.cells at HC ⊢
  clear hX
  go_enter Try.func8, Try.ntmps8
  go_upto_region 1 with fail
  change Code.wp _ _ _ _ (laidM w b)
  generalize laidM w b = m at *
  go_wp2_with fail
  refine (HA.out _).mono ?_
  rintro e w1 ⟨rfl, hb⟩
  have HX1 := Lib.hid (And.intro (HX.out.1.below hb) (HX.out.2.trans (hb.mono HX.out.2.size)))
  clear HX HA hb
  obtain ⟨c0, c1, c2, c3, c4, c5⟩ := HX1.out.1.cells
  go_wp2_with fail
  refine (HC.out _).mono ?_
  rintro e w2 ⟨rfl, hb⟩
  have hl := laidM_at w2 b
  have HX2 := Lib.hid (And.intro ((HX1.out.1.below hb).below hl.2) (And.intro hl.1 ((HX1.out.2.trans (hb.mono HX1.out.2.size)).trans (hl.2.mono (Nat.le_trans HX1.out.2.size hb.size)))))
  clear HX1 HC hb hl c0 c1 c2 c3 c4 c5
  go_upto_region 4 with fail
  change Code.wp _ _ _ _ (laidM w2 b)
  generalize laidM w2 b = w3 at *
  generalize w2.heap.size = g at *
  have hd := HX2.out.2.1.cells
  (try dsimp only [Mt.zero] at hd)
  obtain ⟨d0, d1, d2, d3, d4, d5⟩ := hd
  obtain ⟨c0, c1, c2, c3, c4, c5⟩ := HX2.out.1.cells
  go_wp2_with fail
  go_ret
  exact ⟨by simp, HX2.out.2.2⟩

theorem sum_law (b : Mt) (n : Int) (w : World) :
    Calls Try.prog 8 #[.agg b.cells, .int .i64 n] w fun e w' => e = .returned (.bool true) ∧ Below w.heap.size w w' := by
  rcases sum_ways b n with ⟨c, hc, hX⟩ | ⟨hok, n0, n1, ⟨_, hX⟩ | ⟨hf, _, hX⟩ | ⟨hf, hs, hX⟩⟩
  · exact sum_bad hc hX w
  · exact sum_green hok n0 n1 hX w
  · exact sum_yellow hok n0 n1 hf hX w
  · exact sum_red hf hs hX w
end Go.Proofs.Ytnbjcahhmibmdaa
