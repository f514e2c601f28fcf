/- Contracts of package sums over words of sixteen bits: fold, Add, Turn, isZero, Same; and of the reference's DAdd. -/
import Derived.Test.YtalliljmkijeiaaSmMath
import Derived.WalkKit
import Derived.WalkSpells
import Derived.StillTactics
import Derived.Laws.BitsLemmas
import Derived.Below
import Derived.Deep.QuietTactic
import Derived.BigQuiet
import Derived.Lib.Hide
import Derived.RowKit3
namespace Go.Proofs.Ytalliljmkijeiaa
open Go.RowKit

theorem ret_int {k : IntKind} {a b : Int} (h : a = b) : Ending.returned (.int k a) = .returned (.int k b) := by rw [h]
theorem ret_bool {a b : Bool} (h : a = b) : Ending.returned (.bool a) = .returned (.bool b) := by rw [h]
theorem wraps_u64 (n : Int) (h₀ : 0 ≤ n) (h₁ : n < 2 ^ 64) : IntKind.u64.wrap n = n := by rw [IntKind.wrap_u64]; omega
theorem u64_low16 {x : Int} (h0 : 0 ≤ x) (h1 : x < 18446744073709551616) : bits .and .u64 x 65535 = x % 65536 :=
  bits_mask .u64 64 (by decide) wraps_u64 16 (by decide) x h0 h1

set_option maxHeartbeats 1000000 in
theorem fold_any (s : Int) (h0 : 0 ≤ s) (h1 : s < 18446744073709551616) (w : World) :
    Calls Try.prog 18 #[.int .u64 s] w fun e w' => e = .returned (.int .u16 (fd s)) ∧ w = w' := by
  go_enter Try.func18, Try.ntmps18
  go_wp2
  go_loopw [0] (fun x wr => ∃ m : Int, x = .int .u64 m ∧ 0 ≤ m ∧ m < 18446744073709551616 ∧ Hid (fd m = fd s) ∧ wr = w) (fun x _ => (intOf x).toNat)
  case atStart => exact ⟨s, rfl, h0, h1, Lib.hid rfl, rfl⟩
  case round =>
    obtain ⟨m, rfl, m0, m1, HF, rfl⟩ := hrel
    by_cases c : 65535 < m
    · have ea := u64_low16 m0 m1
      go_wp2
      go_roundw
      case rel => exact ⟨m / 65536 + m % 65536, by go_num, by omega, by omega, Lib.hid ((fd_step c).trans HF.out), trivial⟩
      case measure => simp [intOf]; omega
    · go_wp2
      go_ret
      exact ⟨ret_int (by rw [← HF.out, fd_small m0 (by omega)]), rfl⟩

set_option maxHeartbeats 1000000 in
theorem add_any {a b : Int} (ha : Half a) (hb : Half b) (w : World) :
    Calls Try.prog 11 #[.int .u16 a, .int .u16 b] w fun e w' => e = .returned (.int .u16 (fd (a + b))) ∧ w = w' := by
  obtain ⟨a0, a1⟩ := ha
  obtain ⟨b0, b1⟩ := hb
  have HF := Lib.hid (fun w => fold_any (a + b) (by omega) (by omega) w)
  go_enter Try.func11, Try.ntmps11
  go_wp2_with fail
  refine (HF.out _).mono ?_
  rintro e w1 ⟨rfl, rfl⟩
  go_wp2
  go_ret
  exact ⟨rfl, rfl⟩

theorem bits_not16 {a : Int} (ha : Half a) : bits .xor .u16 IntKind.u16.max a = 65535 - a := by
  obtain ⟨a0, a1⟩ := ha
  obtain ⟨a, rfl⟩ := Int.eq_ofNat_of_zero_le a0
  have ha : a < 65536 := by omega
  have e : (BitVec.ofInt 16 IntKind.u16.max ^^^ BitVec.ofInt 16 (a : Int)) = ~~~ (BitVec.ofInt 16 (a : Int)) := by
    rw [show BitVec.ofInt 16 IntKind.u16.max = BitVec.allOnes 16 by decide, BitVec.allOnes_xor]
  show IntKind.u16.wrap ((BitVec.ofInt 16 IntKind.u16.max ^^^ BitVec.ofInt 16 (a : Int)).toNat : Int) = _
  rw [e, BitVec.toNat_not, BitVec.ofInt_natCast, BitVec.toNat_ofNat, Nat.mod_eq_of_lt ha]
  simp [IntKind.wrap, IntKind.bits, IntKind.signed]
  omega
theorem half_not {a : Int} (ha : Half a) : Half (65535 - a) := by
  obtain ⟨a0, a1⟩ := ha
  exact ⟨by omega, by omega⟩
theorem half_fd {a : Int} (ha : 0 ≤ a) : Half (fd a) := fd_half ha

set_option maxHeartbeats 1000000 in
theorem turn_any {c a b : Int} (hc : Half c) (ha : Half a) (hb : Half b) (w : World) :
    Calls Try.prog 13 #[.int .u16 c, .int .u16 a, .int .u16 b] w fun e w' => e = .returned (.int .u16 (65535 - fd (fd ((65535 - c) + (65535 - a)) + b))) ∧ w = w' := by
  have H1 := Lib.hid (fun w => add_any (half_not hc) (half_not ha) w)
  have hx : Half (fd ((65535 - c) + (65535 - a))) := half_fd (by obtain ⟨_, _⟩ := hc; obtain ⟨_, _⟩ := ha; omega)
  have H2 := Lib.hid (fun w => add_any hx hb w)
  have hy : Half (fd (fd ((65535 - c) + (65535 - a)) + b)) := half_fd (by obtain ⟨_, _⟩ := hx; obtain ⟨_, _⟩ := hb; omega)
  have e1 := bits_not16 hc
  have e2 := bits_not16 ha
  have e3 := bits_not16 hy
  generalize fd (fd ((65535 - c) + (65535 - a)) + b) = y at *
  generalize fd ((65535 - c) + (65535 - a)) = x at *
  have hs : IntKind.u16.signed = false := rfl
  clear hc ha hb hx hy
  go_enter Try.func13, Try.ntmps13
  go_wp2_with fail
  refine (H1.out _).mono ?_
  rintro e w1 ⟨rfl, rfl⟩
  go_wp2_with fail
  refine (H2.out _).mono ?_
  rintro e w1 ⟨rfl, rfl⟩
  go_wp2
  go_ret
  exact ⟨rfl, rfl⟩

def nought (a : Int) : Bool := decide (a = 0 ∨ a = 65535)
set_option maxHeartbeats 1000000 in
theorem isZero_any (a : Int) (w : World) :
    Calls Try.prog 19 #[.int .u16 a] w fun e w' => e = .returned (.bool (nought a)) ∧ w = w' := by
  unfold nought
  by_cases c : a = 0
  · subst c
    go_enter Try.func19, Try.ntmps19
    go_wp2
    go_ret
    exact ⟨ret_bool (by decide), rfl⟩
  · have c' : (a == 0) = false := by simpa using c
    go_enter Try.func19, Try.ntmps19
    go_wp2
    go_ret
    exact ⟨ret_bool (by simp [c]; rfl), rfl⟩
theorem alike_eq {a b : Int} (c : a ≠ b) : (nought a && nought b) = decide (Alike a b) := by
  unfold nought Alike
  simp [c]
set_option maxHeartbeats 1000000 in
theorem same_any (a b : Int) (w : World) :
    Calls Try.prog 14 #[.int .u16 a, .int .u16 b] w fun e w' => e = .returned (.bool (decide (Alike a b))) ∧ w = w' := by
  by_cases c : a = b
  · subst c
    go_enter Try.func14, Try.ntmps14
    go_wp2
    go_ret
    exact ⟨ret_bool (by simp [Alike]), rfl⟩
  · have c' : (a == b) = false := by simpa using c
    have HA := Lib.hid (alike_eq c)
    have H1 := Lib.hid (fun w => isZero_any a w)
    have H2 := Lib.hid (fun w => isZero_any b w)
    generalize nought a = x at *
    generalize nought b = y at *
    clear c
    go_enter Try.func14, Try.ntmps14
    go_wp2_with fail
    refine (H1.out _).mono ?_
    rintro e w1 ⟨rfl, rfl⟩
    cases x with
    | false =>
      go_wp2_with fail
      go_ret
      exact ⟨ret_bool (by simpa using HA.out), rfl⟩
    | true =>
      go_wp2_with fail
      refine (H2.out _).mono ?_
      rintro e w1 ⟨rfl, rfl⟩
      go_wp2
      go_ret
      exact ⟨ret_bool (by simpa using HA.out), rfl⟩

set_option maxHeartbeats 1000000 in
theorem dadd_any {a b : Int} (ha : Half a) (hb : Half b) (w : World) :
    Calls Try.prog 8 #[.int .i64 a, .int .i64 b] w fun e w' => e = .returned (.int .i64 (fd (a + b))) ∧ w = w' := by
  rw [dadd ha hb]
  obtain ⟨a0, a1⟩ := ha
  obtain ⟨b0, b1⟩ := hb
  go_enter Try.func8, Try.ntmps8
  go_wp2
  · go_ret
    exact ⟨rfl, rfl⟩
  · go_ret
    exact ⟨rfl, rfl⟩
end Go.Proofs.Ytalliljmkijeiaa
