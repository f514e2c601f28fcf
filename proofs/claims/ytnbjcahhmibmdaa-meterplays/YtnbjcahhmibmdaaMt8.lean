/- The reference: JRight. -/
import Derived.Test.YtnbjcahhmibmdaaMt4
namespace Go.Proofs.Ytnbjcahhmibmdaa
open Go.RowKit Go.Maps

theorem min6_run (a b c d e f : Int) : ∃ X : Int, (∀ (ts : Array TypeId) (t : TypeId) (W : World), (Builtin.min_ ts t #[.int .i64 a, .int .i64 b, .int .i64 c, .int .i64 d, .int .i64 e, .int .i64 f]).run Try.prog W = .ok (.int .i64 X) W) ∧ (0 ≤ X ↔ 0 ≤ a ∧ 0 ≤ b ∧ 0 ≤ c ∧ 0 ≤ d ∧ 0 ≤ e ∧ 0 ≤ f) := by
  refine ⟨_, fun ts t W => by simp [Builtin.min_, Builtin.min2]; rfl, ?_⟩
  (repeat' split) <;> omega
theorem max3_run (a b c : Int) : ∃ X : Int, (∀ (ts : Array TypeId) (t : TypeId) (W : World), (Builtin.max_ ts t #[.int .i64 a, .int .i64 b, .int .i64 c]).run Try.prog W = .ok (.int .i64 X) W) ∧ (∀ k, X ≤ k ↔ a ≤ k ∧ b ≤ k ∧ c ≤ k) := by
  refine ⟨_, fun ts t W => by simp [Builtin.max_, Builtin.max2]; rfl, fun k => ?_⟩
  (repeat' split) <;> omega
theorem right_sums {b : Mt} {X Y : Int} (hX : 0 ≤ X ↔ 0 ≤ b.rate ∧ 0 ≤ b.burst ∧ 0 ≤ b.exc ∧ 0 ≤ b.fst ∧ 0 ≤ b.snd ∧ 0 ≤ b.tm) (hY : ∀ k, Y ≤ k ↔ b.rate ≤ k ∧ b.burst ≤ k ∧ b.exc ≤ k) :
    b.right = (decide (0 ≤ X) && (decide (Y ≤ 1048576) && (decide (b.fst ≤ b.burst) && (decide (b.snd ≤ b.exc) && decide (b.tm ≤ 1099511627776))))) := by
  have hy := hY 1048576
  rw [Bool.eq_iff_iff, Mt.right_iff]
  simp only [Bool.and_eq_true, decide_eq_true_iff]
  constructor
  · intro h
    have := h.r0; have := h.r1; have := h.b0; have := h.b1; have := h.e0; have := h.e1; have := h.f0; have := h.f1; have := h.s0; have := h.s1; have := h.t0; have := h.t1
    exact ⟨hX.2 (by omega), hy.2 (by omega), by omega, by omega, by omega⟩
  · rintro ⟨h1, h2, h3, h4, h5⟩
    obtain ⟨a1, a2, a3, a4, a5, a6⟩ := hX.1 h1
    obtain ⟨c1, c2, c3⟩ := hy.1 h2
    exact ⟨a1, c1, a2, c2, a3, c3, a4, h3, a5, h4, a6, h5⟩

set_option maxRecDepth 100000 in
set_option maxHeartbeats 8000000 in
theorem jRight_any (b : Mt) (w : World) :
    Calls Try.prog 12 #[.agg b.cells] w fun e w' => e = .returned (.bool b.right) ∧ Below w.heap.size w w' := by
  have HX := Lib.hid (laidM_at w b)
  obtain ⟨X, hX, hX0⟩ := min6_run b.rate b.burst b.exc b.fst b.snd b.tm
  obtain ⟨Y, hY, hY0⟩ := max3_run b.rate b.burst b.exc
  have HQ := Lib.hid (right_sums hX0 hY0)
  clear hX0 hY0
  generalize b.right = R at *
  obtain ⟨c0, c1, c2, c3, c4, c5⟩ := HX.out.1.cells
  unfold Mt.cells
  go_enter Try.func12, Try.ntmps12
  go_upto_region 1 with fail
  change Code.wp _ _ _ _ (laidM w b)
  generalize laidM w b = m at *
  go_wp2_with fail
  all_goals
    go_ret
    refine ⟨ret_bool ?_, HX.out.2⟩
    rw [HQ.out]
    clear HQ c0 c1 c2 c3 c4 c5 hX hY
    first | (simp [*]; done) | (simp; omega)
end Go.Proofs.Ytnbjcahhmibmdaa
