/- A number that is not below 0; Uint64 below 2^64: a contract. -/
import Derived.Test.YtemoleopabddnaaBig22a
namespace Go.Proofs.Ytemoleopabddnaa
open Go.RowKit

theorem IntAt.nat {w : World} {g X : Nat} (h : IntAt w g (X : Int)) : ∃ (A : Option Addr) (n c : Nat) (f : Nat → Nat), w.rowIs g 45 2 (two (.bool false) (.slice A n c)) ∧ n ≤ c ∧ c ≤ 9223372036854775807 ∧ n ≤ 100000 ∧ Dig w A n f ∧ Small n f ∧ (0 < n → f (n - 1) ≠ 0) ∧ X = val n f := by
  obtain ⟨s, A, n, c, f, hg, h1, h2, hd, hs, ht, hz1, ex⟩ := h
  cases s
  · exact ⟨A, n, c, f, hg, h1, h2.1, h2.2, hd, hs, ht, by simp [sg] at ex; omega⟩
  · exfalso
    have h0 : 0 < n := by
      rcases Nat.eq_zero_or_pos n with h | h
      · have := hz1 h; contradiction
      · exact h
    have := val_ge h0 (ht h0)
    have p : 0 < 4294967296 ^ (n - 1) := Nat.pow_pos (by decide)
    simp [sg] at ex
    omega
theorem uint64_small (gx : Nat) (X : Nat) (w : World) (hx : IntAt w gx X) (h : X < 18446744073709551616) :
    Calls Try.prog 57 #[.pointer (some ⟨gx, 0, none⟩)] w fun e w' => e = .returned (.int .u64 (X : Nat)) ∧ w = w' := by
  obtain ⟨A, n, c, f, hg, h1, h2, hn, hd, hs, ht, rfl⟩ := hx.nat
  exact uint64_sgn gx false A n c f w hg hd hs (len_le (k := 2) ht h)
end Go.Proofs.Ytemoleopabddnaa
