/- BucketTime: the walk. -/
import Derived.Test.YtkcfhjbppnchoaaBkTimeM
namespace Go.Proofs.Ytkcfhjbppnchoaa
open Go.RowKit Go.Maps

/-- Buckets that lie in blocks of their own. -/
def Held (W : World) (L : List (Nat × Bk)) : Prop := ∀ p, p ∈ L → BkAt W p.1 p.2
theorem Held.nil (W : World) : Held W [] := fun p hp => by cases hp
theorem Held.later {W W' : World} {L : List (Nat × Bk)} (h : Held W L) (hb : Below W.heap.size W W') : Held W' L := fun p hp => (h p hp).below hb
theorem Held.cons {W : World} {L : List (Nat × Bk)} {g : Nat} {b : Bk} (h : Held W L) (hg : BkAt W g b) : Held W ((g, b) :: L) := fun p hp => by
  rcases List.mem_cons.1 hp with rfl | hp
  · exact hg
  · exact h p hp

set_option maxRecDepth 100000 in
set_option maxHeartbeats 8000000 in
theorem time_law (b : Bk) (x y n : Int) (w : World) :
    Calls Try.prog 7 #[.agg #[.int .i64 b.num, .int .i64 b.den, .int .i64 b.burst, .int .i64 b.lev, .int .i64 b.tm], .int .i64 x, .int .i64 y, .int .i64 n] w fun e w' => e = .returned (.bool true) ∧ Below w.heap.size w w' := by
  have HX := Lib.hid (box1 w b)
  have HAL := Lib.hid (fun W => alive9_any W)
  have HT := Lib.hid (time_all (b := b) (x := x) (y := y) (n := n))
  have H1 := Lib.hid (fun W => fill_any b x W)
  have H3 := Lib.hid (fun W => fill_any b y W)
  have H4 := Lib.hid (fun W => take_any b x n W)
  generalize b.fill y = q3 at *
  generalize b.take x n = q4 at *
  generalize b.fill x = q1 at *
  obtain ⟨f1, e1⟩ := q1
  obtain ⟨f3, e3⟩ := q3
  obtain ⟨f4, u4, e4⟩ := q4
  dsimp only at HT
  have H2 := Lib.hid (fun W => fill_any f1 y W)
  have H5 := Lib.hid (fun W => fill_any f4 y W)
  generalize f1.fill y = q2 at *
  generalize f4.fill y = q5 at *
  obtain ⟨f2, e2⟩ := q2
  obtain ⟨f5, e5⟩ := q5
  unfold Filled at H1 H2 H3 H5
  unfold Taken at H4
  unfold Bk.cells at H1 H2 H3 H4 H5
  dsimp only at HT H1 H2 H3 H4 H5
  go_enter Try.func7, Try.ntmps7
  go_upto_region 1 with fail
  change Code.wp _ _ _ _ (one w b)
  generalize one w b = m at *
  go_wp2_with fail
  refine (HAL.out _).mono ?_
  rintro e m1 ⟨rfl, hb⟩
  have HX0 := Lib.hid (And.intro (HX.out.later hb) (Held.nil m1))
  clear HX hb HAL
  obtain ⟨c0, c1, c2, c3, c4⟩ := HX0.out.1.first.cells
  go_wp2_with fail
  refine (H1.out _).mono ?_
  rintro e w1 ⟨rfl, hb⟩
  have hl := laidB_at w1 f1
  have HX2 := Lib.hid (And.intro ((HX0.out.1.later hb).later hl.2) (((HX0.out.2.later hb).later hl.2).cons hl.1))
  clear HX0 hb hl H1 c0 c1 c2 c3 c4
  go_upto_region 4 with fail
  change Code.wp _ _ _ _ (laidB w1 f1)
  generalize laidB w1 f1 = w2 at *
  generalize w1.heap.size = g9 at *
  obtain ⟨c0, c1, c2, c3, c4⟩ := (HX2.out.2 (g9, f1) (by simp)).cells
  go_wp2_with fail
  refine (H2.out _).mono ?_
  rintro e w3 ⟨rfl, hb⟩
  have hl := laidB_at w3 f2
  have HX4 := Lib.hid (And.intro ((HX2.out.1.later hb).later hl.2) (((HX2.out.2.later hb).later hl.2).cons hl.1))
  clear HX2 hb hl H2 c0 c1 c2 c3 c4
  go_upto_region 5 with fail
  change Code.wp _ _ _ _ (laidB w3 f2)
  generalize laidB w3 f2 = w4 at *
  generalize w3.heap.size = g11 at *
  obtain ⟨c0, c1, c2, c3, c4⟩ := HX4.out.1.first.cells
  go_wp2_with fail
  refine (H3.out _).mono ?_
  rintro e w5 ⟨rfl, hb⟩
  have hl := laidB_at w5 f3
  have HX6 := Lib.hid (And.intro ((HX4.out.1.later hb).later hl.2) (((HX4.out.2.later hb).later hl.2).cons hl.1))
  clear HX4 hb hl H3 c0 c1 c2 c3 c4
  go_upto_region 6 with fail
  change Code.wp _ _ _ _ (laidB w5 f3)
  generalize laidB w5 f3 = w6 at *
  generalize w5.heap.size = g13 at *
  by_cases k1 : e1 = 0
  · by_cases k2 : e2 = 0
    · obtain ⟨ha, hc⟩ := HT.out k1 k2
      injection ha with ha1 ha2
      subst k1 k2 ha1 ha2
      have HC := Lib.hid hc
      clear hc HT
      obtain ⟨c0, c1, c2, c3, c4⟩ := HX6.out.1.first.cells
      go_wp2_with fail
      refine (H4.out _).mono ?_
      rintro e w7 ⟨rfl, hb⟩
      have hl := laidB_at w7 f4
      have HX8 := Lib.hid (And.intro ((HX6.out.1.later hb).later hl.2) (((HX6.out.2.later hb).later hl.2).cons hl.1))
      clear HX6 hb hl H4 c0 c1 c2 c3 c4
      go_upto_region 9 with fail
      change Code.wp _ _ _ _ (laidB w7 f4)
      generalize laidB w7 f4 = w8 at *
      generalize w7.heap.size = g15 at *
      obtain ⟨c0, c1, c2, c3, c4⟩ := (HX8.out.2 (g15, f4) (by simp)).cells
      go_wp2_with fail
      refine (H5.out _).mono ?_
      rintro e w9 ⟨rfl, hb⟩
      have hl := laidB_at w9 f5
      have HX10 := Lib.hid (And.intro ((HX8.out.1.later hb).later hl.2) (((HX8.out.2.later hb).later hl.2).cons hl.1))
      clear HX8 hb hl H5 c0 c1 c2 c3 c4
      go_upto_region 10 with fail
      change Code.wp _ _ _ _ (laidB w9 f5)
      generalize laidB w9 f5 = w10 at *
      generalize w9.heap.size = g18 at *
      obtain ⟨a0, a1, a2, a3, a4⟩ := (HX10.out.2 (g11, f3) (by simp)).cells
      obtain ⟨b0, b1, b2, b3, b4⟩ := (HX10.out.2 (g13, f3) (by simp)).cells
      have d3 := (HX10.out.2 (g18, f5) (by simp)).cells.2.2.2.1
      have d4 := (HX10.out.2 (g15, f4) (by simp)).cells.2.2.2.1
      have d5 := (HX10.out.2 (g9, f1) (by simp)).cells.2.2.2.1
      rcases HC.out with k | ⟨k1, k2, k3⟩
      · have k' : (e4 != 0) = true := by simpa using k
        clear k HC
        go_wp2_with fail
        go_ret
        exact ⟨by simp, HX10.out.1.below⟩
      · subst k1
        clear HC
        by_cases k : e4 = 0
        · subst k
          go_wp2_with fail
          go_ret
          exact ⟨by simp, HX10.out.1.below⟩
        · have k' : (e4 != 0) = true := by simpa using k
          clear k
          go_wp2_with fail
          go_ret
          exact ⟨by simp, HX10.out.1.below⟩
    · subst k1
      have k' : (e2 != 0) = true := by simpa using k2
      clear k2 HT
      go_wp2_with fail
      go_ret
      exact ⟨rfl, HX6.out.1.below⟩
  · have k' : (e1 != 0) = true := by simpa using k1
    clear k1 HT
    go_wp2_with fail
    go_ret
    exact ⟨rfl, HX6.out.1.below⟩
end Go.Proofs.Ytkcfhjbppnchoaa
