/- Nothing is made better: the walk. -/
import Derived.Test.YtnbjcahhmibmdaaMtSum
namespace Go.Proofs.Ytnbjcahhmibmdaa
open Go.RowKit Go.Maps

/-- A meter's box, and a shot's behind it. -/
structure BoxS (w W : World) (b : Mt) (t n : Int) : Prop where
  below : Below w.heap.size w W
  first : MtAt W w.heap.size b
  shot : ShotAt W (w.heap.size + 1) t n
def boxS (w : World) (b : Mt) (t n : Int) : World := (w.alloc (.cells #[.int .i64 b.rate, .int .i64 b.burst, .int .i64 b.exc, .int .i64 b.fst, .int .i64 b.snd, .int .i64 b.tm] 23)).alloc (.cells #[.int .i64 t, .int .i64 n] 25)
theorem boxS_at (w : World) (b : Mt) (t n : Int) : BoxS w (boxS w b t n) b t n := by
  have b1 : Below w.heap.size w (w.alloc (.cells b.cells 23)) := (Below.refl _ _).alloc (Nat.le_refl _) _
  refine ⟨b1.alloc b1.size _, ?_, ?_⟩
  · unfold MtAt boxS
    rw [Below.heap_alloc _ _ _ (by simp)]
    exact heap_alloc_new w _
  · have : w.heap.size + 1 = (w.alloc (.cells #[.int .i64 b.rate, .int .i64 b.burst, .int .i64 b.exc, .int .i64 b.fst, .int .i64 b.snd, .int .i64 b.tm] 23)).heap.size := by simp
    unfold ShotAt boxS
    rw [this]
    exact heap_alloc_new _ _
theorem BoxS.later {w W W' : World} {b : Mt} {t n : Int} (h : BoxS w W b t n) (hb : Below W.heap.size W W') : BoxS w W' b t n := ⟨h.below.trans (hb.mono h.below.size), h.first.below hb, h.shot.below hb⟩

set_option maxRecDepth 100000 in
set_option maxHeartbeats 8000000 in
theorem worse_bad {b : Mt} {t n had h1 : Int} (hh : wrap64 (had + 1) = h1) {m1 : Mt} {y f c : Int} (hX : b.colour t n had = (Mt.zero, 0, c)) (hY : b.colour t n h1 = (m1, y, f)) (hc : c ≠ 0) (w : World) :
    Calls Try.prog 6 #[.agg b.cells, .agg #[.int .i64 t, .int .i64 n], .int .i64 had] w fun e w' => e = .returned (.bool true) ∧ Below w.heap.size w w' := by
  have hc' : (c != 0) = true := by simpa using hc
  have HC := Lib.hid (fun W => colour_any b t n had W)
  rw [hX] at HC
  unfold Told at HC
  dsimp only at HC
  have HD := Lib.hid (fun W => colour_any b t n h1 W)
  rw [hY] at HD
  unfold Told at HD
  dsimp only at HD
  clear hX hY
  have HX := Lib.hid (boxS_at w b t n)
  have HA := Lib.hid (fun W => alive10_any W)
  unfold Mt.cells at HC HD ⊢
  go_enter Try.func6, Try.ntmps6
  go_upto_region 1 with fail
  change Code.wp _ _ _ _ (boxS w b t n)
  generalize boxS w b t n = m at *
  go_wp2_with fail
  refine (HA.out _).mono ?_
  rintro e w1 ⟨rfl, hb⟩
  have HX1 := Lib.hid (HX.out.later hb)
  clear HX HA hb
  obtain ⟨⟨c0, c1, c2, c3, c4, c5⟩, s0, s1⟩ := And.intro HX1.out.first.cells HX1.out.shot.cells
  go_wp2_with fail
  refine (HC.out _).mono ?_
  rintro e w2 ⟨rfl, hb⟩
  have hl := laidM_at w2 Mt.zero
  have HX2 := Lib.hid ((HX1.out.later hb).later hl.2)
  have HN := Lib.hid hl.1
  clear HX1 HC hb hl c0 c1 c2 c3 c4 c5 s0 s1
  go_upto_region 4 with fail
  change Code.wp _ _ _ _ (laidM w2 Mt.zero)
  generalize laidM w2 Mt.zero = w3 at *
  generalize w2.heap.size = g0 at *
  obtain ⟨⟨c0, c1, c2, c3, c4, c5⟩, s0, s1⟩ := And.intro HX2.out.first.cells HX2.out.shot.cells
  go_wp2_with fail
  refine (HD.out _).mono ?_
  rintro e w4 ⟨rfl, hb⟩
  have hl := laidM_at w4 m1
  have HX3 := Lib.hid ((HX2.out.later hb).later hl.2)
  have HN1 := Lib.hid (HN.out.below hb |>.below hl.2)
  clear HX2 HD hb hl HN c0 c1 c2 c3 c4 c5 s0 s1
  go_upto_region 5 with fail
  change Code.wp _ _ _ _ (laidM w4 m1)
  generalize laidM w4 m1 = w5 at *
  have hd := HN1.out.cells
  (try dsimp only [Mt.zero] at hd)
  obtain ⟨d0, d1, d2, d3, d4, d5⟩ := hd
  go_wp2_with fail
  go_ret
  exact ⟨by simp, HX3.out.below⟩

set_option maxRecDepth 100000 in
set_option maxHeartbeats 8000000 in
theorem worse_same {b : Mt} {t n had h1 : Int} (hh : wrap64 (had + 1) = h1) {m0 m1 : Mt} {x y : Int} (hX : b.colour t n had = (m0, x, 0)) (k1 : had ≤ x) (k2 : x ≤ 3) (hr : m0.right = true) (hY : b.colour t n h1 = (m1, y, 0)) (k3 : x ≤ y) (w : World) :
    Calls Try.prog 6 #[.agg b.cells, .agg #[.int .i64 t, .int .i64 n], .int .i64 had] w fun e w' => e = .returned (.bool true) ∧ Below w.heap.size w w' := by
  have HC := Lib.hid (fun W => colour_any b t n had W)
  rw [hX] at HC
  unfold Told at HC
  dsimp only at HC
  have HD := Lib.hid (fun W => colour_any b t n h1 W)
  rw [hY] at HD
  unfold Told at HD
  dsimp only at HD
  have HR := Lib.hid (fun W => right_any m0 W)
  rw [hr] at HR
  clear hr
  clear hX hY
  have HX := Lib.hid (boxS_at w b t n)
  have HA := Lib.hid (fun W => alive10_any W)
  unfold Mt.cells at HC HD HR ⊢
  go_enter Try.func6, Try.ntmps6
  go_upto_region 1 with fail
  change Code.wp _ _ _ _ (boxS w b t n)
  generalize boxS w b t n = m at *
  go_wp2_with fail
  refine (HA.out _).mono ?_
  rintro e w1 ⟨rfl, hb⟩
  have HX1 := Lib.hid (HX.out.later hb)
  clear HX HA hb
  obtain ⟨⟨c0, c1, c2, c3, c4, c5⟩, s0, s1⟩ := And.intro HX1.out.first.cells HX1.out.shot.cells
  go_wp2_with fail
  refine (HC.out _).mono ?_
  rintro e w2 ⟨rfl, hb⟩
  have hl := laidM_at w2 m0
  have HX2 := Lib.hid ((HX1.out.later hb).later hl.2)
  have HN := Lib.hid hl.1
  clear HX1 HC hb hl c0 c1 c2 c3 c4 c5 s0 s1
  go_upto_region 4 with fail
  change Code.wp _ _ _ _ (laidM w2 m0)
  generalize laidM w2 m0 = w3 at *
  generalize w2.heap.size = g0 at *
  obtain ⟨⟨c0, c1, c2, c3, c4, c5⟩, s0, s1⟩ := And.intro HX2.out.first.cells HX2.out.shot.cells
  go_wp2_with fail
  refine (HD.out _).mono ?_
  rintro e w4 ⟨rfl, hb⟩
  have hl := laidM_at w4 m1
  have HX3 := Lib.hid ((HX2.out.later hb).later hl.2)
  have HN1 := Lib.hid (HN.out.below hb |>.below hl.2)
  clear HX2 HD hb hl HN c0 c1 c2 c3 c4 c5 s0 s1
  go_upto_region 5 with fail
  change Code.wp _ _ _ _ (laidM w4 m1)
  generalize laidM w4 m1 = w5 at *
  have hd := HN1.out.cells
  (try dsimp only [Mt.zero] at hd)
  obtain ⟨d0, d1, d2, d3, d4, d5⟩ := hd
  go_wp2_with (go_at_call 11; (with_reducible refine (HR.out _).mono ?_); rintro e w6 ⟨rfl, hb⟩)
  go_ret
  exact ⟨by simp, HX3.out.below.trans (hb.mono HX3.out.below.size)⟩

set_option maxRecDepth 100000 in
set_option maxHeartbeats 8000000 in
theorem worse_none {b : Mt} {t n had h1 : Int} (hh : wrap64 (had + 1) = h1) {m0 m1 : Mt} {x y f : Int} (hX : b.colour t n had = (m0, x, 0)) (k1 : had ≤ x) (k2 : x ≤ 3) (hr : m0.right = true) (hY : b.colour t n h1 = (m1, y, f)) (hf : f ≠ 0) (w : World) :
    Calls Try.prog 6 #[.agg b.cells, .agg #[.int .i64 t, .int .i64 n], .int .i64 had] w fun e w' => e = .returned (.bool true) ∧ Below w.heap.size w w' := by
  have hf' : (f != 0) = true := by simpa using hf
  have HC := Lib.hid (fun W => colour_any b t n had W)
  rw [hX] at HC
  unfold Told at HC
  dsimp only at HC
  have HD := Lib.hid (fun W => colour_any b t n h1 W)
  rw [hY] at HD
  unfold Told at HD
  dsimp only at HD
  have HR := Lib.hid (fun W => right_any m0 W)
  rw [hr] at HR
  clear hr
  clear hX hY
  have HX := Lib.hid (boxS_at w b t n)
  have HA := Lib.hid (fun W => alive10_any W)
  unfold Mt.cells at HC HD HR ⊢
  go_enter Try.func6, Try.ntmps6
  go_upto_region 1 with fail
  change Code.wp _ _ _ _ (boxS w b t n)
  generalize boxS w b t n = m at *
  go_wp2_with fail
  refine (HA.out _).mono ?_
  rintro e w1 ⟨rfl, hb⟩
  have HX1 := Lib.hid (HX.out.later hb)
  clear HX HA hb
  obtain ⟨⟨c0, c1, c2, c3, c4, c5⟩, s0, s1⟩ := And.intro HX1.out.first.cells HX1.out.shot.cells
  go_wp2_with fail
  refine (HC.out _).mono ?_
  rintro e w2 ⟨rfl, hb⟩
  have hl := laidM_at w2 m0
  have HX2 := Lib.hid ((HX1.out.later hb).later hl.2)
  have HN := Lib.hid hl.1
  clear HX1 HC hb hl c0 c1 c2 c3 c4 c5 s0 s1
  go_upto_region 4 with fail
  change Code.wp _ _ _ _ (laidM w2 m0)
  generalize laidM w2 m0 = w3 at *
  generalize w2.heap.size = g0 at *
  obtain ⟨⟨c0, c1, c2, c3, c4, c5⟩, s0, s1⟩ := And.intro HX2.out.first.cells HX2.out.shot.cells
  go_wp2_with fail
  refine (HD.out _).mono ?_
  rintro e w4 ⟨rfl, hb⟩
  have hl := laidM_at w4 m1
  have HX3 := Lib.hid ((HX2.out.later hb).later hl.2)
  have HN1 := Lib.hid (HN.out.below hb |>.below hl.2)
  clear HX2 HD hb hl HN c0 c1 c2 c3 c4 c5 s0 s1
  go_upto_region 5 with fail
  change Code.wp _ _ _ _ (laidM w4 m1)
  generalize laidM w4 m1 = w5 at *
  have hd := HN1.out.cells
  (try dsimp only [Mt.zero] at hd)
  obtain ⟨d0, d1, d2, d3, d4, d5⟩ := hd
  go_wp2_with (go_at_call 11; (with_reducible refine (HR.out _).mono ?_); rintro e w6 ⟨rfl, hb⟩)
  go_ret
  exact ⟨by simp, HX3.out.below.trans (hb.mono HX3.out.below.size)⟩

theorem worse_law (b : Mt) (t n had : Int) (w : World) :
    Calls Try.prog 6 #[.agg b.cells, .agg #[.int .i64 t, .int .i64 n], .int .i64 had] w fun e w' => e = .returned (.bool true) ∧ Below w.heap.size w w' := by
  rcases worse_ways b t n had with ⟨c, hc, hX⟩ | ⟨h1, h3, m, c, hX, k1, k2, hr, m', d, f, hY, hf⟩
  · exact worse_bad rfl hX rfl hc w
  · have hw : wrap64 (had + 1) = had + 1 := w64 (by omega) (by omega)
    rcases hf with hf | ⟨rfl, hf⟩
    · exact worse_none hw hX k1 k2 hr hY hf w
    · exact worse_same hw hX k1 k2 hr hY hf w
end Go.Proofs.Ytnbjcahhmibmdaa
