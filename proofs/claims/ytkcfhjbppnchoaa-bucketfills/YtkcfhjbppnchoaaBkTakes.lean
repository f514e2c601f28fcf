/- bucket.Take answers as the reference does: the walk. -/
import Derived.Test.YtkcfhjbppnchoaaBk12
namespace Go.Proofs.Ytkcfhjbppnchoaa
open Go.RowKit Go.Maps

/-- A bucket's box and a shot's behind it. -/
structure BoxS (w W : World) (b : Bk) (t n : Int) : Prop where
  below : Below w.heap.size w W
  first : BkAt W w.heap.size b
  shot : ShotAt W (w.heap.size + 1) t n
def oneS (w : World) (b : Bk) (t n : Int) : World := (w.alloc (.cells #[.int .i64 b.num, .int .i64 b.den, .int .i64 b.burst, .int .i64 b.lev, .int .i64 b.tm] 23)).alloc (.cells #[.int .i64 t, .int .i64 n] 36)
theorem boxS (w : World) (b : Bk) (t n : Int) : BoxS w (oneS w b t n) b t n := by
  have b1 : Below w.heap.size w (w.alloc (.cells b.cells 23)) := (Below.refl _ _).alloc (Nat.le_refl _) _
  refine ⟨b1.alloc b1.size _, ?_, ?_⟩
  · unfold BkAt oneS
    rw [Below.heap_alloc _ _ _ (by simp)]
    exact heap_alloc_new w _
  · have : w.heap.size + 1 = (w.alloc (.cells #[.int .i64 b.num, .int .i64 b.den, .int .i64 b.burst, .int .i64 b.lev, .int .i64 b.tm] 23)).heap.size := by simp
    unfold ShotAt
    rw [this]
    exact heap_alloc_new _ _
theorem BoxS.later {w W W' : World} {b : Bk} {t n : Int} (h : BoxS w W b t n) (hb : Below W.heap.size W W') : BoxS w W' b t n := ⟨h.below.trans (hb.mono h.below.size), h.first.below hb, h.shot.below hb⟩
/-- A bucket that was laid into a new block. -/
def laidB (w : World) (b : Bk) : World := w.alloc (.cells #[.int .i64 b.num, .int .i64 b.den, .int .i64 b.burst, .int .i64 b.lev, .int .i64 b.tm] 23)
theorem laidB_at (w : World) (b : Bk) : BkAt (laidB w b) w.heap.size b ∧ Below w.heap.size w (laidB w b) := ⟨heap_alloc_new w _, (Below.refl _ _).alloc (Nat.le_refl _) _⟩

set_option maxRecDepth 100000 in
set_option maxHeartbeats 8000000 in
theorem takes_law (b : Bk) (t n : Int) (w : World) :
    Calls Try.prog 4 #[.agg b.cells, .agg #[.int .i64 t, .int .i64 n]] w fun e w' => e = .returned (.bool true) ∧ Below w.heap.size w w' := by
  have HX := Lib.hid (boxS w b t n)
  have H1 := Lib.hid (fun W => take_any b t n W)
  have H2 := Lib.hid (fun W => iTake_any b t n W)
  generalize b.take t n = X at *
  obtain ⟨bt, u, c⟩ := X
  unfold Taken at H1 H2
  dsimp only at H1 H2
  obtain ⟨⟨c0, c1, c2, c3, c4⟩, s0, s1⟩ := And.intro HX.out.first.cells HX.out.shot.cells
  unfold Bk.cells at H1 H2 ⊢
  go_enter Try.func4, Try.ntmps4
  go_upto_region 1 with fail
  change Code.wp _ _ _ _ (oneS w b t n)
  generalize oneS w b t n = m at *
  go_wp2_with fail
  refine (H1.out _).mono ?_
  rintro e w1 ⟨rfl, hb⟩
  have hl := laidB_at w1 bt
  have HX1 := Lib.hid (And.intro ((HX.out.later hb).later hl.2) hl.1)
  clear HX hb hl H1 c0 c1 c2 c3 c4 s0 s1
  go_upto_region 2 with fail
  change Code.wp _ _ _ _ (laidB w1 bt)
  generalize laidB w1 bt = w2 at *
  generalize w1.heap.size = g1 at *
  obtain ⟨⟨c0, c1, c2, c3, c4⟩, s0, s1⟩ := And.intro HX1.out.1.first.cells HX1.out.1.shot.cells
  go_wp2_with fail
  refine (H2.out _).mono ?_
  rintro e w3 ⟨rfl, hb⟩
  have hl := laidB_at w3 bt
  have HX2 := Lib.hid (And.intro ((HX1.out.1.later hb).later hl.2) (And.intro ((HX1.out.2.below hb).below hl.2) hl.1))
  clear HX1 hb hl H2 c0 c1 c2 c3 c4 s0 s1
  go_upto_region 3 with fail
  change Code.wp _ _ _ _ (laidB w3 bt)
  generalize laidB w3 bt = w4 at *
  generalize w3.heap.size = g2 at *
  obtain ⟨⟨c0, c1, c2, c3, c4⟩, d0, d1, d2, d3, d4⟩ := And.intro HX2.out.2.1.cells HX2.out.2.2.cells
  go_wp2_with fail
  go_ret
  exact ⟨by simp, HX2.out.1.below⟩
end Go.Proofs.Ytkcfhjbppnchoaa
