/- The reference's Uint64: a contract. -/
import Derived.Test.YtemoleopabddnaaBig5a
namespace Go.Proofs.Ytemoleopabddnaa
open Go.RowKit

theorem or_word {a b : Nat} (ha : a < 4294967296) (hb : b < 4294967296) : bits .or .u64 ((a : Int) * 4294967296) (b : Int) = ((a * 4294967296 + b : Nat) : Int) := by
  have e : (a : Int) * 4294967296 = ((a * 4294967296 : Nat) : Int) := by omega
  rw [e, bits_or_u64_nat _ _ (by omega) (by omega), Nat.mul_comm, ← Nat.two_pow_add_eq_or_of_lt (i := 32) hb]
set_option maxHeartbeats 1000000 in
theorem uint64_sgn (gx : Nat) (s : Bool) (A : Option Addr) (n c : Nat) (f : Nat → Nat) (w : World) (hg : w.rowIs gx 45 2 (two (.bool s) (.slice A n c))) (hd : Dig w A n f) (hs : Small n f) (hm : n ≤ 2) :
    Calls Try.prog 57 #[.pointer (some ⟨gx, 0, none⟩)] w fun e w' => e = .returned (.int .u64 (val n f : Nat)) ∧ w = w' := by
  have c1 : w.cell? ⟨gx, 1, none⟩ = some (.slice A n c) := hg.cell (by decide)
  go_enter Try.func57, Try.ntmps57
  go_wp2
  go_loop [3, 4] (fun a i => ∃ k acc : Nat, k ≤ n ∧ i = .int .i64 ((k : Int) - 1) ∧ a = .int .u64 acc ∧ acc * 4294967296 ^ k + val k f = val n f) (fun _ i => (intOf i + 1).toNat)
  case atStart => exact ⟨n, 0, Nat.le_refl _, by first | rfl | rw [show min (n : Int) 2 = n by omega], rfl, by simp⟩
  case round =>
    obtain ⟨k, acc, hk, rfl, rfl, he⟩ := hrel
    have HE := Lib.hid he
    by_cases h0 : k = 0
    · subst h0
      clear he
      go_wp2
      go_ret
      have h9 := HE.out
      rw [show val 0 f = 0 from rfl, Nat.pow_zero, Nat.mul_one, Nat.add_zero] at h9
      exact ⟨congrArg (fun x : Nat => Ending.returned (Value.int IntKind.u64 (x : Int))) h9, rfl⟩
    · obtain ⟨q, rfl⟩ : ∃ q, k = q + 1 := ⟨k - 1, by omega⟩
      obtain ⟨b, rfl⟩ := hd.addr (by omega)
      have hx := (hd.cell (j := q) (by omega)).1
      have hxs := hs q (by omega)
      have hacc : acc < 4294967296 := by
        have l := val_lt (hs.le (show n ≤ n by omega))
        have l2 := Nat.pow_le_pow_right (show 0 < 4294967296 by decide) (show n ≤ 2 by omega)
        have l3 : acc * 4294967296 ^ 1 ≤ acc * 4294967296 ^ (q + 1) := Nat.mul_le_mul_left _ (Nat.pow_le_pow_right (by decide) (by omega))
        omega
      have eq1 : ((q + 1 : Nat) : Int) - 1 = (q : Int) := by omega
      rw [eq1]
      have hq0 : (0 : Int) ≤ (q : Int) := by omega
      have hqn : (q : Int) < (n : Int) := by omega
      clear he
      go_wp2
      go_round
      case rel =>
        refine ⟨q, acc * 4294967296 + f q, by omega, rfl, congrArg (Value.int IntKind.u64) (or_word hacc hxs), ?_⟩
        have h9 := HE.out
        rw [show val (q + 1) f = val q f + f q * 4294967296 ^ q from rfl, Nat.pow_succ, Nat.mul_comm (4294967296 ^ q), ← Nat.mul_assoc] at h9
        rw [Nat.add_mul]
        omega
      case measure => simp [intOf]
end Go.Proofs.Ytemoleopabddnaa
