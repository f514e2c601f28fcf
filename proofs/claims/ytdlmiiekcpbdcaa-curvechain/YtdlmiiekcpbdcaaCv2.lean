/- curve.Delay. -/
import Derived.Test.YtdlmiiekcpbdcaaCv1
namespace Go.Proofs.Ytdlmiiekcpbdcaa
open Go.RowKit Go.Maps

set_option maxRecDepth 100000 in
set_option maxHeartbeats 4000000 in
theorem delay_any (b r l s : Int) (w : World) : Calls Try.prog 10 #[.agg #[.int .i64 b, .int .i64 r], .agg #[.int .i64 l, .int .i64 s]] w fun e w' => e = .returned (.tuple #[.int .i64 (delay b r l s).1, .int .i64 (delay b r l s).2]) ∧ Below w.heap.size w w' := by
  have HX := Lib.hid (laid2_at w b r l s)
  have H0 := Lib.hid (fun w => wrong_any b r l s w)
  have hw := delay_way b r l s
  generalize delay b r l s = D at *
  cases hw with
  | bad h =>
    rw [h, if_pos rfl] at H0
    clear h
    go_enter Try.func10, Try.ntmps10
    go_upto_region 1 with fail
    change Code.wp _ _ _ _ (laid2 w b r l s)
    generalize laid2 w b r l s = m at *
    obtain ⟨⟨c0, c1⟩, c2, c3⟩ := HX.out.cells
    go_wp2_with fail
    refine (H0.out _).mono ?_
    rintro e w1 ⟨rfl, hb⟩
    have HY := Lib.hid (HX.out.later hb)
    clear HX hb c0 c1 c2 c3
    go_wp2_with fail
    go_ret2
    exact ⟨rfl, HY.out.below⟩
  | zero h h0 =>
    have hf := wrong4_false.1 h
    rw [h, if_neg (by decide)] at H0
    clear h
    go_enter Try.func10, Try.ntmps10
    go_upto_region 1 with fail
    change Code.wp _ _ _ _ (laid2 w b r l s)
    generalize laid2 w b r l s = m at *
    obtain ⟨⟨c0, c1⟩, c2, c3⟩ := HX.out.cells
    go_wp2_with fail
    refine (H0.out _).mono ?_
    rintro e w1 ⟨rfl, hb⟩
    have HY := Lib.hid (HX.out.later hb)
    clear HX hb c0 c1 c2 c3
    obtain ⟨⟨c0, c1⟩, c2, c3⟩ := HY.out.cells
    have e1 : wrap64 (b + r) = 0 := by rw [IntWalk.wrap64_in _ (by constructor <;> omega)]; exact h0
    clear h0 hf
    go_wp2_with fail
    go_ret2
    exact ⟨rfl, HY.out.below⟩
  | none h h0 h1 =>
    have hf := wrong4_false.1 h
    rw [h, if_neg (by decide)] at H0
    clear h
    have e1 : wrap64 (b + r) = b + r := IntWalk.wrap64_in _ (by constructor <;> omega)
    have e2 : ((b + r) == 0) = false := by simpa using h0
    clear h0
    by_cases hs : s = 0
    · subst hs
      clear h1
      go_enter Try.func10, Try.ntmps10
      go_upto_region 1 with fail
      change Code.wp _ _ _ _ (laid2 w b r l 0)
      generalize laid2 w b r l 0 = m at *
      obtain ⟨⟨c0, c1⟩, c2, c3⟩ := HX.out.cells
      go_wp2_with fail
      refine (H0.out _).mono ?_
      rintro e w1 ⟨rfl, hb⟩
      have HY := Lib.hid (HX.out.later hb)
      clear HX hb c0 c1 c2 c3
      obtain ⟨⟨c0, c1⟩, c2, c3⟩ := HY.out.cells
      go_wp2_with fail
      go_ret2
      exact ⟨rfl, HY.out.below⟩
    · have e3 : (s == 0) = false := by simpa using hs
      have e4 : s < r := by omega
      clear hs h1
      go_enter Try.func10, Try.ntmps10
      go_upto_region 1 with fail
      change Code.wp _ _ _ _ (laid2 w b r l s)
      generalize laid2 w b r l s = m at *
      obtain ⟨⟨c0, c1⟩, c2, c3⟩ := HX.out.cells
      go_wp2_with fail
      refine (H0.out _).mono ?_
      rintro e w1 ⟨rfl, hb⟩
      have HY := Lib.hid (HX.out.later hb)
      clear HX hb c0 c1 c2 c3
      obtain ⟨⟨c0, c1⟩, c2, c3⟩ := HY.out.cells
      go_wp2_with fail
      go_ret2
      exact ⟨rfl, HY.out.below⟩
  | some h h0 h1 h2 =>
    have hf := wrong4_false.1 h
    have hl0 := late_nonneg h h0 h1
    have hl1 := late_le h h0 h1
    rw [h, if_neg (by decide)] at H0
    clear h
    have e1 : wrap64 (b + r) = b + r := IntWalk.wrap64_in _ (by constructor <;> omega)
    have e2 : ((b + r) == 0) = false := by simpa using h0
    have e3 : (s == 0) = false := by simp; omega
    have e4 : ¬ s < r := by omega
    have e5 : Hid (wrap64 (wrap64 (l + (b + r + s - 1) / s) - 1) = late b r l s) := Lib.hid (by
      have := ceil_spec (x := b + r) h1 (by omega)
      unfold late at *
      rw [IntWalk.wrap64_in (l + _) (by constructor <;> omega), IntWalk.wrap64_in _ (by constructor <;> omega)])
    go_enter Try.func10, Try.ntmps10
    go_upto_region 1 with fail
    change Code.wp _ _ _ _ (laid2 w b r l s)
    generalize laid2 w b r l s = m at *
    obtain ⟨⟨c0, c1⟩, c2, c3⟩ := HX.out.cells
    go_wp2_with fail
    refine (H0.out _).mono ?_
    rintro e w1 ⟨rfl, hb⟩
    have HY := Lib.hid (HX.out.later hb)
    clear HX hb c0 c1 c2 c3
    obtain ⟨⟨c0, c1⟩, c2, c3⟩ := HY.out.cells
    go_upto_region 9 with fail
    go_quiet (fail)
    go_wp2_with fail
    go_ret2
    rw [e5.out]
    exact ⟨rfl, below_drewN HY.out.below _⟩
end Go.Proofs.Ytdlmiiekcpbdcaa
