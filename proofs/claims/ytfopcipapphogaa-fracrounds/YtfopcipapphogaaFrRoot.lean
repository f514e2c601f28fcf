/- Contracts of package frac: Root. -/
import Derived.Test.YtfopcipapphogaaBase
namespace Go.Proofs.Ytfopcipapphogaa
open Go.RowKit

/-- r is the whole root of n. -/
structure RootIs (n r : Nat) : Prop where
  lo : r * r ≤ n
  hi : n < (r + 1) * (r + 1)
  w : r < 4294967296
/-- Ahead of bit k. -/
structure RootInv (n r b k : Nat) : Prop where
  bit : b = 2 ^ k / 2
  c : ∃ c, r = 2 ^ k * c
  lo : r * r ≤ n
  hi : n < (r + 2 ^ k) * (r + 2 ^ k)
  top : r + 2 ^ k ≤ 4294967296

theorem rootInv_start {n : Nat} (hn : n < 18446744073709551616) : RootInv n 0 2147483648 32 := ⟨by decide, ⟨0, by simp⟩, by simp, by simpa using hn, by decide⟩
theorem rootInv_end {n r k : Nat} (h : RootInv n r 0 k) : RootIs n r := by
  obtain ⟨e, _, lo, hi, top⟩ := h
  have : k = 0 := by
    rcases Nat.eq_zero_or_pos k with h | h
    · exact h
    · obtain ⟨j, rfl⟩ : ∃ j, k = j + 1 := ⟨k - 1, by omega⟩
      have := Nat.two_pow_pos j
      rw [Nat.pow_succ] at e
      omega
  subst this
  exact ⟨lo, hi, by simp at top; omega⟩
/-- One round: what the words reckon. -/
theorem rootInv_round {n r b k : Nat} (h : RootInv n r b k) (hb : 0 < b) :
    ∃ s : Nat, bits .or .u64 (r : Int) (b : Int) = (s : Int) ∧ s < 4294967296 ∧ s * s < 18446744073709551616 ∧ b < 18446744073709551616 ∧ (s * s ≤ n → RootInv n s (b / 2) (k - 1)) ∧ (n < s * s → RootInv n r (b / 2) (k - 1)) := by
  obtain ⟨e, ⟨c, rfl⟩, lo, hi, top⟩ := h
  obtain ⟨j, rfl⟩ : ∃ j, k = j + 1 := by
    rcases Nat.eq_zero_or_pos k with h | h
    · subst h; simp at e; omega
    · exact ⟨k - 1, by omega⟩
  have p := Nat.two_pow_pos j
  have e2 : 2 ^ (j + 1) = 2 * 2 ^ j := by rw [Nat.pow_succ, Nat.mul_comm]
  have eb : b = 2 ^ j := by rw [e2] at e; omega
  subst eb
  have hor : 2 ^ (j + 1) * c ||| 2 ^ j = 2 ^ (j + 1) * c + 2 ^ j := (Nat.two_pow_add_eq_or_of_lt (by omega) c).symm
  have hcc : 2 ^ (j + 1) * c = 2 ^ j * (2 * c) := by rw [e2, Nat.mul_comm 2, Nat.mul_assoc]
  have hlt : 2 ^ (j + 1) * c + 2 ^ j < 4294967296 := by omega
  refine ⟨2 ^ (j + 1) * c + 2 ^ j, ?_, hlt, ?_, by omega, ?_, ?_⟩
  · rw [bits_or_u64_nat _ _ (by omega) (by omega), hor]
  · have := Nat.mul_le_mul (show 2 ^ (j + 1) * c + 2 ^ j ≤ 4294967295 by omega) (show 2 ^ (j + 1) * c + 2 ^ j ≤ 4294967295 by omega)
    omega
  · intro h
    refine ⟨by simp, ⟨2 * c + 1, ?_⟩, h, ?_, ?_⟩
    · rw [hcc]; simp [Nat.mul_add]
    · simp only [Nat.add_sub_cancel]
      rw [show 2 ^ (j + 1) * c + 2 ^ j + 2 ^ j = 2 ^ (j + 1) * c + 2 ^ (j + 1) from by omega]
      exact hi
    · simp only [Nat.add_sub_cancel]; omega
  · intro h
    refine ⟨by simp, ⟨2 * c, ?_⟩, lo, ?_, ?_⟩
    · rw [hcc]; simp
    · simpa using h
    · simp only [Nat.add_sub_cancel]; omega

theorem root_any (n : Nat) (hn : n < 18446744073709551616) (w : World) :
    Calls Try.prog 43 #[.int .u64 n] w fun e w' => ∃ r : Nat, RootIs n r ∧ e = .returned (.int .u64 r) ∧ w = w' := by
  go_enter Try.func43, Try.ntmps43
  go_wp2
  go_loopw [3, 4] (fun x y wr => ∃ r b k : Nat, x = .int .u64 r ∧ y = .int .u64 b ∧ RootInv n r b k ∧ wr = w) (fun _ y _ => (intOf y).toNat)
  case atStart => exact ⟨0, 2147483648, 32, rfl, rfl, rootInv_start hn, rfl⟩
  case round =>
    obtain ⟨r, b, k, rfl, rfl, hi, rfl⟩ := hrel
    by_cases h0 : b = 0
    · subst h0
      go_wp2
      go_ret
      exact ⟨r, rootInv_end hi, rfl, rfl⟩
    · obtain ⟨s, hor, hs, hss, hbl, hy, hno⟩ := rootInv_round hi (by omega)
      have HY := Lib.hid hy
      have HN := Lib.hid hno
      have HI := Lib.hid hi
      clear hy hno hi
      have hpos : 0 < b := by omega
      have hm : IntKind.u64.wrap ((s : Int) * s) = ((s * s : Nat) : Int) := by
        rw [IntKind.wrap_u64, ← Int.natCast_mul]
        omega
      rcases Nat.lt_or_ge n (s * s) with c | c
      · go_wp2
        go_roundw
        case rel => exact ⟨r, b / 2, k - 1, rfl, by go_num, HN.out c, by simp⟩
        case measure => simp [intOf]; omega
      · go_wp2
        go_roundw
        case rel => exact ⟨s, b / 2, k - 1, rfl, by go_num, HY.out c, by simp⟩
        case measure => simp [intOf]; omega
end Go.Proofs.Ytfopcipapphogaa
