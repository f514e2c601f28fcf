/- CurveMore: of a greater curve, or a slower service, the delay is no less. -/
import Derived.Test.YtdlmiiekcpbdcaaCv7
namespace Go.Proofs.Ytdlmiiekcpbdcaa
open Go.RowKit Go.Maps

theorem min3_run (a b c : Int) : ∃ X : Int, (∀ (ts : Array TypeId) (t : TypeId) (W : World), (Builtin.min_ ts t #[.int .i64 a, .int .i64 b, .int .i64 c]).run Try.prog W = .ok (.int .i64 X) W) ∧ (0 ≤ X ↔ 0 ≤ a ∧ 0 ≤ b ∧ 0 ≤ c) := by
  refine ⟨_, fun ts t W => by simp [Builtin.min_, Builtin.min2]; rfl, ?_⟩
  (repeat' split) <;> omega
theorem max3_run (a b c : Int) : ∃ X : Int, (∀ (ts : Array TypeId) (t : TypeId) (W : World), (Builtin.max_ ts t #[.int .i64 a, .int .i64 b, .int .i64 c]).run Try.prog W = .ok (.int .i64 X) W) ∧ (X ≤ 1000 ↔ a ≤ 1000 ∧ b ≤ 1000 ∧ c ≤ 1000) := by
  refine ⟨_, fun ts t W => by simp [Builtin.max_, Builtin.max2]; rfl, ?_⟩
  (repeat' split) <;> omega
theorem delay_more {b r l s p q t : Int} (hp : 0 ≤ p ∧ 0 ≤ q ∧ 0 ≤ t) (hp2 : p ≤ 1000 ∧ q ≤ 1000 ∧ t ≤ 1000) (h : (delay b r l s).2 = 0) (h2 : (delay (wrap64 (b + p)) (wrap64 (r + q)) (wrap64 (l + t)) s).2 = 0) : (delay b r l s).1 ≤ (delay (wrap64 (b + p)) (wrap64 (r + q)) (wrap64 (l + t)) s).1 := by
  have hw := wrong4_false.1 (delay_ok h).1
  rw [IntWalk.wrap64_in (b + p) (by constructor <;> omega), IntWalk.wrap64_in (r + q) (by constructor <;> omega), IntWalk.wrap64_in (l + t) (by constructor <;> omega)] at h2 ⊢
  have hn := (delay_nonneg (b + p) (r + q) (l + t) s).1
  have w1 := delay_way b r l s
  have w2 := delay_way (b + p) (r + q) (l + t) s
  generalize delay b r l s = D at *
  generalize delay (b + p) (r + q) (l + t) s = E at *
  cases w1 with
  | bad => cases h
  | none => cases h
  | zero => exact hn
  | some a1 a2 a3 a4 =>
    cases w2 with
    | bad => cases h2
    | none => cases h2
    | zero _ z => omega
    | some b1 b2 b3 b4 =>
      have := ceil_mono (x := b + r) (y := b + p + (r + q)) a3 (by omega)
      show late b r l s ≤ late (b + p) (r + q) (l + t) s
      unfold late
      omega

set_option maxRecDepth 100000 in
set_option maxHeartbeats 8000000 in
theorem more_law (b r l s p q t : Int) (w : World) : Calls Try.prog 9 #[.agg #[.int .i64 b, .int .i64 r], .agg #[.int .i64 l, .int .i64 s], .int .i64 p, .int .i64 q, .int .i64 t] w fun e w' => e = .returned (.bool true) ∧ Below w.heap.size w w' := by
  have HX := Lib.hid (laid2_at w b r l s)
  have HA := Lib.hid (fun W => alive11_any W)
  have H0 := Lib.hid (fun w => delay_any b r l s w)
  have H1 := Lib.hid (fun w => delay_any (wrap64 (b + p)) (wrap64 (r + q)) (wrap64 (l + t)) s w)
  obtain ⟨X, hX, hX0⟩ := min3_run p q t
  obtain ⟨Y, hY, hY0⟩ := max3_run p q t
  by_cases cX : 0 ≤ X
  · by_cases cY : Y ≤ 1000
    · have HM := Lib.hid (delay_more (b := b) (r := r) (l := l) (s := s) (hX0.1 cX) (hY0.1 cY))
      clear hX0 hY0
      generalize delay b r l s = D at *
      generalize delay (wrap64 (b + p)) (wrap64 (r + q)) (wrap64 (l + t)) s = E at *
      obtain ⟨d, e⟩ := D
      obtain ⟨f, g⟩ := E
      dsimp only at HM H0 H1
      go_enter Try.func9, Try.ntmps9
      go_upto_region 1 with fail
      change Code.wp _ _ _ _ (laid2 w b r l s)
      generalize laid2 w b r l s = m at *
      go_wp2_with fail
      refine (HA.out _).mono ?_
      rintro e1 w1 ⟨rfl, hb⟩
      have HY := Lib.hid (HX.out.later hb)
      clear HX HA hb
      obtain ⟨⟨c0, c1⟩, c2, c3⟩ := HY.out.cells
      go_wp2_with fail
      refine (H0.out _).mono ?_
      rintro e2 w2 ⟨rfl, hb⟩
      have HZ := Lib.hid (HY.out.later hb)
      clear HY hb c0 c1 c2 c3 H0 hX hY
      obtain ⟨⟨c0, c1⟩, c2, c3⟩ := HZ.out.cells
      go_wp2_with fail
      refine (H1.out _).mono ?_
      rintro e3 w3 ⟨rfl, hb⟩
      have HW := Lib.hid (HZ.out.later hb).below
      clear HZ hb c0 c1 c2 c3 H1
      by_cases he : e = 0
      · subst he
        by_cases hg : g = 0
        · subst hg
          have hdf := HM.out rfl rfl
          go_wp2_with fail
          go_ret
          exact ⟨ret_bool (by simp), HW.out⟩
        · have i1 : (g != 0) = true := by simpa using hg
          go_wp2_with fail
          go_ret
          exact ⟨rfl, HW.out⟩
      · have i1 : (e != 0) = true := by simpa using he
        go_wp2_with fail
        go_ret
        exact ⟨rfl, HW.out⟩
    · have i1 : 1000 < Y := by omega
      clear hX0 hY0
      go_enter Try.func9, Try.ntmps9
      go_upto_region 1 with fail
      change Code.wp _ _ _ _ (laid2 w b r l s)
      generalize laid2 w b r l s = m at *
      go_wp2_with fail
      refine (HA.out _).mono ?_
      rintro e1 w1 ⟨rfl, hb⟩
      have HY := Lib.hid (HX.out.later hb).below
      clear HX HA hb
      go_wp2_with fail
      go_ret
      exact ⟨rfl, HY.out⟩
  · have i1 : X < 0 := by omega
    clear hX0 hY0
    go_enter Try.func9, Try.ntmps9
    go_upto_region 1 with fail
    change Code.wp _ _ _ _ (laid2 w b r l s)
    generalize laid2 w b r l s = m at *
    go_wp2_with fail
    refine (HA.out _).mono ?_
    rintro e1 w1 ⟨rfl, hb⟩
    have HY := Lib.hid (HX.out.later hb).below
    clear HX HA hb
    go_wp2_with fail
    go_ret
    exact ⟨rfl, HY.out⟩
end Go.Proofs.Ytdlmiiekcpbdcaa
