/- A contract of math/bits.Div64, proved by walking its text: the quotient and the rest of two words by a greater one, for every argument. -/
import Derived.Test.YtfopcipapphogaaBits2
import Derived.Test.YtfopcipapphogaaNum
import Derived.Lib.Hide
import Derived.BigQuiet
import Derived.Deep.QuietTactic
namespace Go.Proofs.Ytfopcipapphogaa
open Go.RowKit
set_option maxHeartbeats 1000000 in
theorem div64_small (lo y : Int) (hl : Word lo) (hy : Word y) (h0 : 0 < y) (w : World) :
    Calls Try.prog 67 #[.int .u64 0, .int .u64 lo, .int .u64 y] w fun e w' =>
      e = .returned (.tuple #[.int .u64 (lo / y), .int .u64 (lo % y)]) ∧ ∃ n, w' = w.drewN n := by
  obtain ⟨l1, l2⟩ := hl
  obtain ⟨y1, y2⟩ := hy
  have hy0 : (y == 0) = false := by simp; omega
  go_enter Try.func67, Try.ntmps67
  go_wp2
  go_quiet (fail)
  go_wp2
  go_ret2
  exact ⟨rfl, _, rfl⟩
theorem ret_two {k : IntKind} {a b c d : Int} (h1 : a = c) (h2 : b = d) : Ending.returned (.tuple #[.int k a, .int k b]) = .returned (.tuple #[.int k c, .int k d]) := by rw [h1, h2]
set_option maxHeartbeats 1000000 in
theorem div64_big (hi lo y : Nat) (hl : lo < 18446744073709551616) (hy : y < 18446744073709551616) (h0 : 0 < hi) (hlt : hi < y) (w : World) :
    Calls Try.prog 67 #[.int .u64 hi, .int .u64 lo, .int .u64 y] w fun e w' =>
      e = .returned (.tuple #[.int .u64 (((hi : Int) * 18446744073709551616 + lo) / y), .int .u64 (((hi : Int) * 18446744073709551616 + lo) % y)]) ∧ w = w' := by
  have hy0 : ((y : Int) == 0) = false := by simp; omega
  have hh0 : ((hi : Int) == 0) = false := by simp; omega
  go_enter Try.func67, Try.ntmps67
  go_wp2_with (go_at_call 84; refine (lz64 y _ (by omega) (by omega)).mono ?_; rintro e w' ⟨s, hs, rfl, rfl⟩; rw [Int.toNat_natCast] at hs; have hs1 : s ≤ 63 := hs.1; obtain ⟨Y, v1, v0, U, L, l1, l0, e1, e2, e3, e4, e5, e6, e7, e8, e9, hY, hq, hl0, hl1, e10⟩ := norm hi lo y s hs hlt hl; have E8 := Lib.hid e8; have E9 := Lib.hid e9; have E10 := Lib.hid e10; clear e8 e9 e10; have hU : U < 18446744073709551616 := (by have := hq.u1; have := E8.out; omega); obtain ⟨q, r, e11, e12, hqr⟩ := guess hq hU; have g1 := hq.a0; have g2 := hq.u0)
  go_loop [15, 16] (fun a b => ∃ q r : Int, a = .int .u64 q ∧ b = .int .u64 r ∧ QInv U l1 v1 v0 q r) (fun a _ => (intOf a).toNat)
  case atStart => exact ⟨q, r, rfl, rfl, hqr⟩
  case round =>
    obtain ⟨q, r, rfl, rfl, hi⟩ := hrel
    obtain ⟨z0, z1⟩ := qinv_bounds hq hi
    have i1 := hi.r0
    have i2 := hi.r1
    have i3 := hq.d0
    have i4 := hq.d1
    have i5 := hq.a1
    have w1 : 1 ≤ q → IntKind.u64.wrap (q - 1) = q - 1 := fun h => wrap64_id _ (by omega) (by have := hi.q1; omega)
    rcases ways hq hi with ⟨c1, c3, hp, hn⟩ | ⟨c1, c2, c3, hp, hn⟩ | ⟨c1, c3, hp, D⟩ | ⟨c1, c2, c3, hp, D⟩ | ⟨c1, c2, hp, D⟩
    · go_wp2
      go_round
      case rel => exact ⟨_, _, rfl, rfl, hn⟩
      case measure => simp [intOf]; omega
    · go_wp2
      go_round
      case rel => exact ⟨_, _, rfl, rfl, hn⟩
      case measure => simp [intOf]; omega
    all_goals
      obtain ⟨R, q2, r2, t1, t2, t3, hq2, hi2, hR⟩ := after1 hq D E8.out hl0 hl1 hY
      have HR := Lib.hid hR
      clear hR
      have m1 := hq2.u0
      have m2 := hq2.u1
      have i0 := D.q0
      have i6 := D.q1
      go_wp2
      go_loop [18, 16] (fun a b => ∃ q r : Int, a = .int .u64 q ∧ b = .int .u64 r ∧ QInv R l0 v1 v0 q r) (fun a _ => (intOf a).toNat)
      case atStart => exact ⟨q2, r2, rfl, rfl, hi2⟩
      case round =>
        obtain ⟨q3, r3, rfl, rfl, hi3⟩ := hrel
        obtain ⟨z2, z3⟩ := qinv_bounds hq2 hi3
        have j1 := hi3.r0
        have j2 := hi3.r1
        have w2 : 1 ≤ q3 → IntKind.u64.wrap (q3 - 1) = q3 - 1 := fun h => wrap64_id _ (by omega) (by have := hi3.q1; omega)
        rcases ways hq2 hi3 with ⟨d1, d3, kp, kn⟩ | ⟨d1, d2, d3, kp, kn⟩ | ⟨d1, d3, kp, D2⟩ | ⟨d1, d2, d3, kp, D2⟩ | ⟨d1, d2, kp, D2⟩
        · go_wp2
          go_round
          case rel => exact ⟨_, _, rfl, rfl, kn⟩
          case measure => simp [intOf]; omega
        · go_wp2
          go_round
          case rel => exact ⟨_, _, rfl, rfl, kn⟩
          case measure => simp [intOf]; omega
        all_goals
          obtain ⟨f1, f2⟩ := after2 (by omega) D2 HR.out E8.out hY E9.out E10.out
          have k0 := D2.q0
          have k1 := D2.q1
          have F1 := Lib.hid f1
          clear f1
          go_wp2
          go_ret2
          exact ⟨ret_two (by first | exact F1.out | (rw [wrap64_id _ (by omega) (by omega)]; exact F1.out)) rfl, rfl⟩
theorem div64 (hi lo y : Int) (hh : Word hi) (hl : Word lo) (hy : Word y) (hlt : hi < y) (w : World) :
    Calls Try.prog 67 #[.int .u64 hi, .int .u64 lo, .int .u64 y] w fun e w' =>
      e = .returned (.tuple #[.int .u64 ((hi * 18446744073709551616 + lo) / y), .int .u64 ((hi * 18446744073709551616 + lo) % y)]) ∧ ∃ n, w' = w.drewN n := by
  obtain ⟨k1, k2⟩ := hh
  by_cases h0 : hi = 0
  · subst h0
    refine (div64_small lo y hl hy hlt w).mono ?_
    rintro e w' ⟨rfl, hw⟩
    exact ⟨by simp, hw⟩
  · obtain ⟨hi, rfl⟩ := Int.eq_ofNat_of_zero_le k1
    obtain ⟨lo, rfl⟩ := Int.eq_ofNat_of_zero_le hl.1
    obtain ⟨y, rfl⟩ := Int.eq_ofNat_of_zero_le hy.1
    obtain ⟨_, l2⟩ := hl
    obtain ⟨_, y2⟩ := hy
    refine (div64_big hi lo y (by omega) (by omega) (by omega) (by omega) w).mono ?_
    rintro e w' ⟨rfl, rfl⟩
    exact ⟨rfl, 0, rfl⟩
end Go.Proofs.Ytfopcipapphogaa
