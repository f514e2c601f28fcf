/- The fold of package sums; words of sixteen bits. -/
import Derived.Test.YtmigfemkbdehbaaSmMath
import Derived.WalkKit
import Derived.WalkSpells
import Derived.StillTactics
import Derived.Laws.BitsLemmas
import Derived.Below
import Derived.Deep.QuietTactic
import Derived.BigQuiet
import Derived.Lib.Hide
import Derived.RowKit3
namespace Go.Proofs.Ytmigfemkbdehbaa
open Go.RowKit

theorem ret_int {k : IntKind} {a b : Int} (h : a = b) : Ending.returned (.int k a) = .returned (.int k b) := by rw [h]
theorem ret_bool {a b : Bool} (h : a = b) : Ending.returned (.bool a) = .returned (.bool b) := by rw [h]
theorem wraps_u64 (n : Int) (h₀ : 0 ≤ n) (h₁ : n < 2 ^ 64) : IntKind.u64.wrap n = n := by rw [IntKind.wrap_u64]; omega
theorem u64_low16 {x : Int} (h0 : 0 ≤ x) (h1 : x < 18446744073709551616) : bits .and .u64 x 65535 = x % 65536 :=
  bits_mask .u64 64 (by decide) wraps_u64 16 (by decide) x h0 h1

set_option maxHeartbeats 1000000 in
theorem fold_any (s : Int) (h0 : 0 ≤ s) (h1 : s < 18446744073709551616) (w : World) :
    Calls Try.prog 28 #[.int .u64 s] w fun e w' => e = .returned (.int .u16 (fd s)) ∧ w = w' := by
  go_enter Try.func28, Try.ntmps28
  go_wp2
  go_loopw [0] (fun x wr => ∃ m : Int, x = .int .u64 m ∧ 0 ≤ m ∧ m < 18446744073709551616 ∧ Hid (fd m = fd s) ∧ wr = w) (fun x _ => (intOf x).toNat)
  case atStart => exact ⟨s, rfl, h0, h1, Lib.hid rfl, rfl⟩
  case round =>
    obtain ⟨m, rfl, m0, m1, HF, rfl⟩ := hrel
    by_cases c : 65535 < m
    · have ea := u64_low16 m0 m1
      go_wp2
      go_roundw
      case rel => exact ⟨m / 65536 + m % 65536, by go_num, by omega, by omega, Lib.hid ((fd_step c).trans HF.out), trivial⟩
      case measure => simp [intOf]; omega
    · go_wp2
      go_ret
      exact ⟨ret_int (by rw [← HF.out, fd_small m0 (by omega)]), rfl⟩

theorem bits_not16 {a : Int} (ha : Half a) : bits .xor .u16 IntKind.u16.max a = 65535 - a := by
  obtain ⟨a0, a1⟩ := ha
  obtain ⟨a, rfl⟩ := Int.eq_ofNat_of_zero_le a0
  have ha : a < 65536 := by omega
  have e : (BitVec.ofInt 16 IntKind.u16.max ^^^ BitVec.ofInt 16 (a : Int)) = ~~~ (BitVec.ofInt 16 (a : Int)) := by
    rw [show BitVec.ofInt 16 IntKind.u16.max = BitVec.allOnes 16 by decide, BitVec.allOnes_xor]
  show IntKind.u16.wrap ((BitVec.ofInt 16 IntKind.u16.max ^^^ BitVec.ofInt 16 (a : Int)).toNat : Int) = _
  rw [e, BitVec.toNat_not, BitVec.ofInt_natCast, BitVec.toNat_ofNat, Nat.mod_eq_of_lt ha]
  simp [IntKind.wrap, IntKind.bits, IntKind.signed]
  omega
theorem half_not {a : Int} (ha : Half a) : Half (65535 - a) := by
  obtain ⟨a0, a1⟩ := ha
  exact ⟨by omega, by omega⟩
theorem half_fd {a : Int} (ha : 0 ≤ a) : Half (fd a) := fd_half ha

end Go.Proofs.Ytmigfemkbdehbaa
