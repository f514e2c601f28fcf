/- BucketReady: the walk. -/
import Derived.Test.YtkcfhjbppnchoaaBkTime
namespace Go.Proofs.Ytkcfhjbppnchoaa
open Go.RowKit Go.Maps

set_option maxRecDepth 100000 in
set_option maxHeartbeats 8000000 in
theorem readies_law (b : Bk) (n : Int) (w : World) :
    Calls Try.prog 8 #[.agg #[.int .i64 b.num, .int .i64 b.den, .int .i64 b.burst, .int .i64 b.lev, .int .i64 b.tm], .int .i64 n] w fun e w' => e = .returned (.bool true) ∧ Below w.heap.size w w' := by
  have HX := Lib.hid (box1 w b)
  have HAL := Lib.hid (fun W => alive9_any W)
  have HN := Lib.hid (ready_none (b := b) (n := n))
  have HO := Lib.hid (fun r => ready_one (b := b) (n := n) (r := r))
  have H1 := Lib.hid (fun W => ready_any b n W)
  have HTK := Lib.hid (fun t W => take_any b t n W)
  generalize b.ready n = q1 at *
  obtain ⟨r, u, e1⟩ := q1
  unfold Readied at H1
  unfold Taken at HTK
  unfold Bk.cells at H1 HTK
  dsimp only at HN H1
  go_enter Try.func8, Try.ntmps8
  go_upto_region 1 with fail
  change Code.wp _ _ _ _ (one w b)
  generalize one w b = m at *
  go_wp2_with fail
  refine (HAL.out _).mono ?_
  rintro e m1 ⟨rfl, hb⟩
  have HX0 := Lib.hid (And.intro (HX.out.later hb) (Held.nil m1))
  clear HX hb HAL
  obtain ⟨c0, c1, c2, c3, c4⟩ := HX0.out.1.first.cells
  go_wp2_with fail
  refine (H1.out _).mono ?_
  rintro e m2 ⟨rfl, hb⟩
  have HX1 := Lib.hid (And.intro (HX0.out.1.later hb) (Held.nil m2))
  clear HX0 hb H1 c0 c1 c2 c3 c4
  by_cases k1 : e1 = 0
  · subst k1
    cases u with
    | false =>
      have hz : r = 0 := HN.out (.inr rfl)
      subst hz
      clear HN HO HTK
      go_wp2_with fail
      go_ret
      exact ⟨by simp, HX1.out.1.below⟩
    | true =>
      obtain ⟨hok, r0, r1, ⟨c, hc⟩, hd⟩ := HO.out r rfl
      have ht0 := hok.t0
      have H4 := Lib.hid (fun W => HTK.out r W)
      rw [hc] at H4
      dsimp only at H4
      obtain ⟨q, hq⟩ : ∃ q, wrap64 (r - 1) = q := ⟨_, rfl⟩
      have hq2 : q = r - 1 := by rw [← hq]; exact w64 (by omega) (by omega)
      have H5 := Lib.hid (fun W => HTK.out q W)
      have HD : Hid (r ≠ b.tm → ∃ c, b.take q n = (c, false, 0)) := Lib.hid (by rw [hq2]; exact hd)
      generalize b.take q n = q5 at *
      obtain ⟨f5, u5, e5⟩ := q5
      dsimp only at H5
      have hlt : ¬ r < b.tm := by omega
      clear HN HO HTK hok r0 r1 hc hd ht0 hq2
      obtain ⟨c0, c1, c2, c3, c4⟩ := HX1.out.1.first.cells
      go_wp2_with fail
      refine (H4.out _).mono ?_
      rintro e w3 ⟨rfl, hb⟩
      have hl := laidB_at w3 c
      have HX4 := Lib.hid (And.intro ((HX1.out.1.later hb).later hl.2) (((HX1.out.2.later hb).later hl.2).cons hl.1))
      clear HX1 hb hl H4 c0 c1 c2 c3 c4
      go_upto_region 7 with fail
      change Code.wp _ _ _ _ (laidB w3 c)
      generalize laidB w3 c = w4 at *
      generalize w3.heap.size = g8 at *
      obtain ⟨c0, c1, c2, c3, c4⟩ := HX4.out.1.first.cells
      clear c0 c1 c2 c3
      go_upto_region 9 with fail
      clear c4 hlt
      obtain ⟨c0, c1, c2, c3, c4⟩ := HX4.out.1.first.cells
      go_wp2_with fail
      refine (H5.out _).mono ?_
      rintro e w5 ⟨rfl, hb⟩
      have hl := laidB_at w5 f5
      have HX6 := Lib.hid (And.intro ((HX4.out.1.later hb).later hl.2) (((HX4.out.2.later hb).later hl.2).cons hl.1))
      clear HX4 hb hl H5 c0 c1 c2 c3 c4
      go_upto_region 10 with fail
      change Code.wp _ _ _ _ (laidB w5 f5)
      generalize laidB w5 f5 = w6 at *
      generalize w5.heap.size = g11 at *
      obtain ⟨c0, c1, c2, c3, c4⟩ := HX6.out.1.first.cells
      by_cases k : r = b.tm
      · have k' : (r == b.tm) = true := by simpa using k
        clear k HD
        go_wp2_with fail
        go_ret
        exact ⟨by simp, HX6.out.1.below⟩
      · obtain ⟨c', hc⟩ := HD.out k
        injection hc with hc1 hc2
        injection hc2 with hc2 hc3
        subst hc2 hc3
        have k' : (r == b.tm) = false := by simpa using k
        clear k HD hc1
        go_wp2_with fail
        go_ret
        exact ⟨by simp, HX6.out.1.below⟩
  · have hz : r = 0 := HN.out (.inl k1)
    subst hz
    have k' : (e1 != 0) = true := by simpa using k1
    clear k1 HN HO HTK
    go_wp2_with fail
    go_ret
    exact ⟨by simp, HX1.out.1.below⟩
end Go.Proofs.Ytkcfhjbppnchoaa
