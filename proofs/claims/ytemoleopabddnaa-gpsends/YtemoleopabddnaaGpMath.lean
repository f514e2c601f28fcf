/- Processor sharing, plain: when each is done, times its weight. -/
import Derived.Test.YtemoleopabddnaaSu
namespace Go.Proofs.Ytemoleopabddnaa

/-- When k is done, times its weight: of each the bytes that go till then. -/
def gT (b v : Nat → Int) (n k : Nat) : Int := su (fun j => min (b j * v k) (v j * b k)) n
theorem gT_le_sum (b v : Nat → Int) (n k : Nat) : gT b v n k ≤ su b n * v k := by
  rw [Int.mul_comm, ← su_mul]
  refine su_le fun j _ => ?_
  rw [Int.mul_comm (v k)]
  omega
theorem gT_share (b v : Nat → Int) (n k : Nat) : gT b v n k ≤ b k * su v n := by
  rw [← su_mul]
  refine su_le fun j _ => ?_
  rw [Int.mul_comm (b k)]
  omega
theorem su_one {f : Nat → Int} : ∀ {n : Nat}, (∀ j, j < n → 0 ≤ f j) → ∀ {k : Nat}, k < n → f k ≤ su f n
  | 0, _, k, hk => by omega
  | n + 1, h, k, hk => by
    have h1 := su_nonneg (f := f) (n := n) (fun j hj => h j (by omega))
    have h2 := h n (by omega)
    rw [su_succ]
    by_cases c : k = n
    · subst c; omega
    · have := su_one (f := f) (n := n) (fun j hj => h j (by omega)) (k := k) (by omega)
      omega
theorem gT_own {b v : Nat → Int} {n k : Nat} (hb : ∀ j, j < n → 0 ≤ b j) (hv : ∀ j, j < n → 0 ≤ v j) (hk : k < n) : b k * v k ≤ gT b v n k := by
  have h := su_one (f := fun j => min (b j * v k) (v j * b k)) (n := n) (fun j hj => by
    have h1 := Int.mul_nonneg (hb j hj) (hv k hk)
    have h2 := Int.mul_nonneg (hv j hj) (hb k hk)
    omega) hk
  have e : min (b k * v k) (v k * b k) = b k * v k := by rw [Int.mul_comm (v k)]; omega
  rw [← e]
  exact h
theorem gT_nonneg {b v : Nat → Int} {n k : Nat} (hb : ∀ j, j < n → 0 ≤ b j) (hv : ∀ j, j < n → 0 ≤ v j) (hk : k < n) : 0 ≤ gT b v n k := by
  have h1 := gT_own hb hv hk
  have h2 := Int.mul_nonneg (hb k hk) (hv k hk)
  omega
/-- Somebody is last. -/
theorem gT_max {b v : Nat → Int} : ∀ {n : Nat}, (∀ j, j < n → 1 ≤ v j) → 0 < n → ∃ k, k < n ∧ ∀ j, j < n → b j * v k ≤ v j * b k
  | 0, _, h => by omega
  | n + 1, hv, _ => by
    by_cases c : n = 0
    · subst c
      exact ⟨0, by omega, fun j hj => by
        obtain rfl : j = 0 := by omega
        rw [Int.mul_comm]
        exact Int.le_refl _⟩
    · obtain ⟨k, hk, hm⟩ := gT_max (b := b) (v := v) (n := n) (fun j hj => hv j (by omega)) (by omega)
      by_cases h : b n * v k ≤ v n * b k
      · refine ⟨k, by omega, fun j hj => ?_⟩
        by_cases hj2 : j = n
        · subst hj2; exact h
        · exact hm j (by omega)
      · refine ⟨n, by omega, fun j hj => ?_⟩
        by_cases hj2 : j = n
        · subst hj2
          rw [Int.mul_comm]
          exact Int.le_refl _
        · have h1 := Int.mul_le_mul_of_nonneg_right (hm j (by omega)) (show 0 ≤ v n by have := hv n (by omega); omega)
          have h2 := Int.mul_le_mul_of_nonneg_left (show v n * b k ≤ b n * v k by omega) (show 0 ≤ v j by have := hv j (by omega); omega)
          have h3 : b j * v n * v k ≤ v j * b n * v k := by
            rw [show b j * v n * v k = b j * v k * v n by rw [Int.mul_right_comm], Int.mul_assoc (v j)]
            rw [Int.mul_assoc (v j), Int.mul_comm (b k)] at h1
            omega
          exact Int.le_of_mul_le_mul_right h3 (by have := hv k (by omega); omega)
theorem gT_last {b v : Nat → Int} {n k : Nat} (h : ∀ j, j < n → b j * v k ≤ v j * b k) : gT b v n k = su b n * v k := by
  rw [Int.mul_comm, ← su_mul]
  refine su_congr fun j hj => ?_
  have := h j hj
  rw [Int.mul_comm (v k)]
  omega
theorem gT_bytes {b c v : Nat → Int} {n k : Nat} (hv : ∀ j, j < n → 0 ≤ v j) (hk : k < n) (h : ∀ j, j < n → b j ≤ c j) : gT b v n k ≤ gT c v n k := su_le fun j hj => by
  have h1 := Int.mul_le_mul_of_nonneg_right (h j hj) (hv k hk)
  have h2 := Int.mul_le_mul_of_nonneg_left (h k hk) (hv j hj)
  omega
/-- A greater weight makes it no later. -/
theorem gT_weight {b v u : Nat → Int} {n k : Nat} (hv : ∀ j, j < n → 0 ≤ v j) (hb : ∀ j, j < n → 0 ≤ b j) (hk : k < n) (he : ∀ j, j < n → j ≠ k → u j = v j) (hu : v k ≤ u k) : gT b u n k * v k ≤ gT b v n k * u k := by
  rw [Int.mul_comm, Int.mul_comm _ (u k), gT, gT, ← su_mul, ← su_mul]
  refine su_le fun j hj => ?_
  have vk := hv k hk
  have e1 : v k * min (b j * u k) (u j * b k) = min (v k * (b j * u k)) (v k * (u j * b k)) := by
    rcases Int.le_total (b j * u k) (u j * b k) with h | h
    · have := Int.mul_le_mul_of_nonneg_left h vk
      rw [show min (b j * u k) (u j * b k) = b j * u k by omega]; omega
    · have := Int.mul_le_mul_of_nonneg_left h vk
      rw [show min (b j * u k) (u j * b k) = u j * b k by omega]; omega
  have e2 : u k * min (b j * v k) (v j * b k) = min (u k * (b j * v k)) (u k * (v j * b k)) := by
    rcases Int.le_total (b j * v k) (v j * b k) with h | h
    · have := Int.mul_le_mul_of_nonneg_left h (show 0 ≤ u k by omega)
      rw [show min (b j * v k) (v j * b k) = b j * v k by omega]; omega
    · have := Int.mul_le_mul_of_nonneg_left h (show 0 ≤ u k by omega)
      rw [show min (b j * v k) (v j * b k) = v j * b k by omega]; omega
  have e3 : v k * (b j * u k) = u k * (b j * v k) := by rw [Int.mul_comm (v k), Int.mul_assoc, Int.mul_comm (u k), ← Int.mul_assoc, Int.mul_comm (b j * v k)]
  rw [e1, e2, e3]
  by_cases c : j = k
  · subst c
    have : v j * (u j * b j) = u j * (v j * b j) := by rw [← Int.mul_assoc, ← Int.mul_assoc, Int.mul_comm (v j)]
    omega
  · rw [he j hj c]
    have := Int.mul_le_mul_of_nonneg_right hu (Int.mul_nonneg (hv j hj) (hb k hk))
    omega
theorem min_mul {c : Int} (hc : 0 ≤ c) (x y : Int) : min (c * x) (c * y) = c * min x y := by
  rcases Int.le_total x y with h | h
  · have := Int.mul_le_mul_of_nonneg_left h hc
    rw [show min x y = x by omega]; omega
  · have := Int.mul_le_mul_of_nonneg_left h hc
    rw [show min x y = y by omega]; omega
theorem gT_scaleW (b v : Nat → Int) (n k : Nat) {c : Int} (hc : 0 ≤ c) : gT b (fun j => c * v j) n k = c * gT b v n k := by
  unfold gT
  rw [← su_mul]
  refine su_congr fun j _ => ?_
  rw [← min_mul hc, Int.mul_assoc, show b j * (c * v k) = c * (b j * v k) by rw [← Int.mul_assoc, Int.mul_comm (b j), Int.mul_assoc]]
theorem gT_scaleB (b v : Nat → Int) (n k : Nat) {c : Int} (hc : 0 ≤ c) : gT (fun j => c * b j) v n k = c * gT b v n k := by
  unfold gT
  rw [← su_mul]
  refine su_congr fun j _ => ?_
  rw [← min_mul hc, Int.mul_assoc, show v j * (c * b k) = c * (v j * b k) by rw [← Int.mul_assoc, Int.mul_comm (v j), Int.mul_assoc]]
/-- Who has less by its weight is done sooner. -/
theorem gT_order {b v : Nat → Int} {n i j : Nat} (hv : ∀ k, k < n → 1 ≤ v k) (hi : i < n) (hj : j < n) : (b j * v i ≤ v j * b i → gT b v n j * v i ≤ gT b v n i * v j) ∧ (b j * v i < v j * b i → gT b v n j * v i < gT b v n i * v j) := by
  have vi := hv i hi
  have vj := hv j hj
  have term : ∀ l, l < n → b j * v i ≤ v j * b i → v i * min (b l * v j) (v l * b j) ≤ v j * min (b l * v i) (v l * b i) := fun l hl h => by
    rw [← min_mul (by omega), ← min_mul (by omega)]
    have h1 := Int.mul_le_mul_of_nonneg_left h (show 0 ≤ v l by have := hv l hl; omega)
    have e1 : v i * (b l * v j) = v j * (b l * v i) := by rw [Int.mul_comm (v i), Int.mul_assoc, Int.mul_comm (v j), ← Int.mul_assoc, Int.mul_comm (b l * v i)]
    have e2 : v i * (v l * b j) = v l * (b j * v i) := by rw [Int.mul_comm (v i), Int.mul_assoc]
    have e3 : v j * (v l * b i) = v l * (v j * b i) := by rw [← Int.mul_assoc, Int.mul_comm (v j), Int.mul_assoc]
    omega
  have ea : gT b v n j * v i = su (fun l => v i * min (b l * v j) (v l * b j)) n := by rw [su_mul, Int.mul_comm]; rfl
  have eb : gT b v n i * v j = su (fun l => v j * min (b l * v i) (v l * b i)) n := by rw [su_mul, Int.mul_comm]; rfl
  rw [ea, eb]
  refine ⟨fun h => su_le fun l hl => term l hl h, fun h => su_lt (fun l hl => term l hl (by omega)) ⟨i, hi, ?_⟩⟩
  rw [← min_mul (by omega), ← min_mul (by omega)]
  have h1 := Int.mul_lt_mul_of_pos_left h (show 0 < v i by omega)
  have e1 : v i * (v i * b j) = v i * (b j * v i) := by rw [Int.mul_comm (v i) (b j)]
  have e2 : v j * (b i * v i) = v i * (v j * b i) := by rw [Int.mul_comm (b i), ← Int.mul_assoc, ← Int.mul_assoc, Int.mul_comm (v j)]
  have e3 : v j * (v i * b i) = v i * (v j * b i) := by rw [← Int.mul_assoc, ← Int.mul_assoc, Int.mul_comm (v j)]
  omega
/-- In one piece nobody is done later. -/
theorem gT_whole {b v : Nat → Int} {n k : Nat} (hv : ∀ j, j < n → 0 ≤ v j) (hb : ∀ j, j < n → 0 ≤ b j) (hk : k < n) {s : Nat → Bool} (h : ∀ j, j < n → s j = true → b j * v k ≤ v j * b k) : su (fun j => if s j = true then b j else 0) n * v k ≤ gT b v n k := by
  rw [Int.mul_comm, ← su_mul]
  refine su_le fun j hj => ?_
  cases hs : s j with
  | true =>
    have := h j hj hs
    rw [if_pos rfl, Int.mul_comm (v k)]
    omega
  | false =>
    have h1 := Int.mul_nonneg (hb j hj) (hv k hk)
    have h2 := Int.mul_nonneg (hv j hj) (hb k hk)
    rw [if_neg (by decide), Int.mul_zero]
    omega
end Go.Proofs.Ytemoleopabddnaa
