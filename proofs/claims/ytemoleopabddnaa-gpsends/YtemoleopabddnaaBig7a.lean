/- The reference's Add whole: a contract. -/
import Derived.Test.YtemoleopabddnaaBig6
namespace Go.Proofs.Ytemoleopabddnaa
open Go.RowKit

theorem len_of_le {n m : Nat} {f g : Nat → Nat} (hs : Small n f) (ht : 0 < m → g (m - 1) ≠ 0) (h : val m g ≤ val n f) : m ≤ n := by
  rcases Nat.lt_or_ge n m with c | c
  · have := val_lt_len hs ht c; omega
  · exact c
theorem add_int (gz gx gy : Nat) (x y : Int) (w : World) (hz : Room w gz) (hx : IntAt w gx x) (hy : IntAt w gy y) (hv : Fits (x + y).natAbs) :
    Calls Try.prog 43 #[.pointer (some ⟨gz, 0, none⟩), .pointer (some ⟨gx, 0, none⟩), .pointer (some ⟨gy, 0, none⟩)] w fun e w' =>
      e = .returned (.pointer (some ⟨gz, 0, none⟩)) ∧ w.grownBy w' (some gz) ∧ IntAt w' gz (x + y) := by
  obtain ⟨s, A, n, c, f, hr, h1, h2, hd, hs, ht, hz1, rfl⟩ := hx
  obtain ⟨s', A', n', c', f', hr', h1', h2', hd', hs', ht', hz1', rfl⟩ := hy
  by_cases he : s = s'
  · have e : sg s (val n f + val n' f') = sg s (val n f) + sg s' (val n' f') := by subst he; cases s <;> simp [sg] <;> omega
    rw [← e] at hv ⊢
    rw [sg_abs] at hv
    exact add_same_sign gz gx gy s s' A A' n n' c c' f f' w hz hr hr' hd hd' hs hs' h2.2 h2'.2 he hv
  · by_cases hle : val n' f' ≤ val n f
    · have e : sg s (val n f - val n' f') = sg s (val n f) + sg s' (val n' f') := by cases s <;> cases s' <;> simp [sg] at he ⊢ <;> omega
      rw [← e] at hv ⊢
      rw [sg_abs] at hv
      exact add_ge gz gx gy s s' A A' n n' c c' f f' w hz hr hr' hd hd' hs hs' h2.2 h2'.2 ht ht' he (len_of_le hs ht' hle) hle hv
    · have e : sg s' (val n' f' - val n f) = sg s (val n f) + sg s' (val n' f') := by cases s <;> cases s' <;> simp [sg] at he ⊢ <;> omega
      rw [← e] at hv ⊢
      rw [sg_abs] at hv
      exact add_lt gz gx gy s s' A A' n n' c c' f f' w hz hr hr' hd hd' hs hs' h2.2 h2'.2 ht ht' he (len_of_le hs' ht (by omega)) (by omega) (by omega) hv
end Go.Proofs.Ytemoleopabddnaa
