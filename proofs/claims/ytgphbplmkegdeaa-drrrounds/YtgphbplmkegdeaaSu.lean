/- Sums over functions, plain. -/
import Derived.Test.YtgphbplmkegdeaaWd0
namespace Go.Proofs.Ytgphbplmkegdeaa

/-- The sum of the first n. -/
def su (f : Nat → Int) : Nat → Int
  | 0 => 0
  | n + 1 => su f n + f n
theorem su_zero (f : Nat → Int) : su f 0 = 0 := rfl
theorem su_succ (f : Nat → Int) (n : Nat) : su f (n + 1) = su f n + f n := rfl
theorem su_congr {f g : Nat → Int} : ∀ {n : Nat}, (∀ k, k < n → f k = g k) → su f n = su g n
  | 0, _ => rfl
  | n + 1, h => by rw [su_succ, su_succ, su_congr (fun k hk => h k (by omega)), h n (by omega)]
theorem su_le {f g : Nat → Int} : ∀ {n : Nat}, (∀ k, k < n → f k ≤ g k) → su f n ≤ su g n
  | 0, _ => Int.le_refl _
  | n + 1, h => by
    have h1 := su_le (f := f) (g := g) (n := n) (fun k hk => h k (by omega))
    have h2 := h n (by omega)
    rw [su_succ, su_succ]
    omega
theorem su_lt {f g : Nat → Int} : ∀ {n : Nat}, (∀ k, k < n → f k ≤ g k) → (∃ k, k < n ∧ f k < g k) → su f n < su g n
  | 0, _, h => by obtain ⟨k, hk, _⟩ := h; omega
  | n + 1, h, hx => by
    obtain ⟨k, hk, hl⟩ := hx
    have h2 := h n (by omega)
    rw [su_succ, su_succ]
    by_cases c : k = n
    · subst c
      have h1 := su_le (f := f) (g := g) (n := k) (fun j hj => h j (by omega))
      omega
    · have h1 := su_lt (f := f) (g := g) (n := n) (fun j hj => h j (by omega)) ⟨k, by omega, hl⟩
      omega
theorem su_mul (c : Int) (f : Nat → Int) : ∀ n, su (fun k => c * f k) n = c * su f n
  | 0 => by rw [su_zero, su_zero, Int.mul_zero]
  | n + 1 => by rw [su_succ, su_succ, su_mul c f n, Int.mul_add]
theorem su_add (f g : Nat → Int) : ∀ n, su (fun k => f k + g k) n = su f n + su g n
  | 0 => rfl
  | n + 1 => by rw [su_succ, su_succ, su_succ, su_add f g n]; omega
theorem su_nonneg {f : Nat → Int} : ∀ {n : Nat}, (∀ k, k < n → 0 ≤ f k) → 0 ≤ su f n
  | 0, _ => Int.le_refl _
  | n + 1, h => by
    have h1 := su_nonneg (f := f) (n := n) (fun k hk => h k (by omega))
    have h2 := h n (by omega)
    rw [su_succ]
    omega
theorem su_bound {f : Nat → Int} {b : Int} : ∀ {n : Nat}, (∀ k, k < n → f k ≤ b) → su f n ≤ b * (n : Int)
  | 0, _ => by rw [su_zero]; simp
  | n + 1, h => by
    have h1 := su_bound (f := f) (n := n) (fun k hk => h k (by omega))
    have h2 := h n (by omega)
    rw [su_succ, show ((n + 1 : Nat) : Int) = (n : Int) + 1 by omega, Int.mul_add, Int.mul_one]
    omega
theorem su_pos {f : Nat → Int} : ∀ {n : Nat}, 0 < su f n → ∃ k, k < n ∧ 0 < f k
  | 0, h => by rw [su_zero] at h; omega
  | n + 1, h => by
    rw [su_succ] at h
    by_cases c : 0 < f n
    · exact ⟨n, by omega, c⟩
    · obtain ⟨k, hk, hp⟩ := su_pos (f := f) (n := n) (by omega)
      exact ⟨k, by omega, hp⟩
theorem su_front (f : Nat → Int) : ∀ n, su f (n + 1) = f 0 + su (fun k => f (k + 1)) n
  | 0 => by rw [su_succ, su_zero, su_zero]; omega
  | n + 1 => by rw [su_succ, su_front f n, su_succ]; omega
theorem su_rev (f : Nat → Int) : ∀ n, su (fun k => f (n - 1 - k)) n = su f n
  | 0 => rfl
  | n + 1 => by
    rw [su_front, su_succ, show n + 1 - 1 - 0 = n by omega, su_congr (g := fun k => f (n - 1 - k)) (fun k hk => by show f (n + 1 - 1 - (k + 1)) = _; congr 1; omega), su_rev f n]
    omega
end Go.Proofs.Ytgphbplmkegdeaa
