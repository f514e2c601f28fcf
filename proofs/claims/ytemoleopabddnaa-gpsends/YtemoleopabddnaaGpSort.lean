/- Package gps, plain: the order in which the flows are done, by insertion. -/
import Derived.Test.YtemoleopabddnaaGp0
namespace Go.Proofs.Ytemoleopabddnaa

/-- Done sooner, or at the same time with a smaller number. -/
def Sooner (xs ys : List Int) (i j : Nat) : Prop := fn xs i * fn ys j < fn xs j * fn ys i ∨ (fn xs i * fn ys j = fn xs j * fn ys i ∧ i < j)
theorem Sooner.le {xs ys : List Int} {i j : Nat} (h : Sooner xs ys i j) : fn xs i * fn ys j ≤ fn xs j * fn ys i := by
  rcases h with h | h <;> omega
theorem Sooner.irrefl {xs ys : List Int} {i : Nat} (h : Sooner xs ys i i) : False := by
  rcases h with h | h <;> omega
theorem cross_le {a b c x y z : Int} (hx : 1 ≤ x) (hy : 1 ≤ y) (hz : 1 ≤ z) (h1 : a * y ≤ b * x) (h2 : b * z ≤ c * y) : a * z ≤ c * x ∧ (a * y < b * x ∨ b * z < c * y → a * z < c * x) := by
  have k1 := Int.mul_le_mul_of_nonneg_right h1 (show 0 ≤ z by omega)
  have k2 := Int.mul_le_mul_of_nonneg_right h2 (show 0 ≤ x by omega)
  rw [Int.mul_right_comm a, Int.mul_right_comm b] at k1
  rw [Int.mul_right_comm c] at k2
  refine ⟨Int.le_of_mul_le_mul_right (Int.le_trans k1 k2) (show 0 < y by omega), fun h => ?_⟩
  refine Int.lt_of_mul_lt_mul_right (a := y) ?_ (by omega)
  rcases h with h | h
  · have k3 := Int.mul_lt_mul_of_pos_right h (show 0 < z by omega)
    rw [Int.mul_right_comm a, Int.mul_right_comm b] at k3
    exact Int.lt_of_lt_of_le k3 k2
  · have k3 := Int.mul_lt_mul_of_pos_right h (show 0 < x by omega)
    rw [Int.mul_right_comm c] at k3
    exact Int.lt_of_le_of_lt k1 k3
theorem Sooner.trans {xs ys : List Int} {i j k : Nat} (hi : 1 ≤ fn ys i) (hj : 1 ≤ fn ys j) (hk : 1 ≤ fn ys k) (h1 : Sooner xs ys i j) (h2 : Sooner xs ys j k) : Sooner xs ys i k := by
  have c := cross_le hi hj hk h1.le h2.le
  rcases Int.lt_or_le (fn xs i * fn ys k) (fn xs k * fn ys i) with h | h
  · exact .inl h
  · refine .inr ⟨by omega, ?_⟩
    rcases h1 with h1 | h1
    · have := c.2 (.inl h1); omega
    · rcases h2 with h2 | h2
      · have := c.2 (.inr h2); omega
      · omega
/-- The first i stand in order, the rest as they came. -/
structure Srt (xs ys : List Int) (i : Nat) (a : Nat → Nat) : Prop where
  low : ∀ p, p < i → a p < i
  inc : ∀ p q, p < q → q < i → Sooner xs ys (a p) (a q)
  rest : ∀ p, i ≤ p → a p = p
  all : ∀ k, k < i → ∃ p, p < i ∧ a p = k
/-- The i-th on its way down, at j. -/
structure Way (xs ys : List Int) (i j : Nat) (a : Nat → Nat) : Prop where
  le : j ≤ i
  at_ : a j = i
  low : ∀ p, p ≤ i → p ≠ j → a p < i
  inc : ∀ p q, p < q → q ≤ i → p ≠ j → q ≠ j → Sooner xs ys (a p) (a q)
  up : ∀ p, j < p → p ≤ i → fn xs i * fn ys (a p) < fn xs (a p) * fn ys i
  rest : ∀ p, i < p → a p = p
  all : ∀ k, k ≤ i → ∃ p, p ≤ i ∧ a p = k
theorem Srt.start (xs ys : List Int) : Srt xs ys 0 (fun p => p) := ⟨fun _ h => by omega, fun _ _ _ h => by omega, fun _ _ => rfl, fun _ h => by omega⟩
theorem Srt.one (xs ys : List Int) : Srt xs ys 1 (fun p => p) := ⟨fun _ h => h, fun _ _ _ _ => by omega, fun _ _ => rfl, fun k h => ⟨k, h, rfl⟩⟩
theorem Srt.way {xs ys : List Int} {i : Nat} {a : Nat → Nat} (h : Srt xs ys i a) : Way xs ys i i a :=
  ⟨Nat.le_refl _, h.rest i (Nat.le_refl _), fun p hp hn => h.low p (by omega), fun p q hpq hq _ hn => h.inc p q hpq (by omega), fun p h1 h2 => by omega, fun p hp => h.rest p (by omega), fun k hk => by
    by_cases c : k = i
    · exact ⟨i, Nat.le_refl _, by rw [h.rest i (Nat.le_refl _), c]⟩
    · obtain ⟨p, hp, e⟩ := h.all k (by omega)
      exact ⟨p, by omega, e⟩⟩
namespace Way
variable {xs ys : List Int} {i j n : Nat} {a : Nat → Nat}
theorem swap (h : Way xs ys i (j + 1) a) (hc : fn xs i * fn ys (a j) < fn xs (a j) * fn ys i) : Way xs ys i j (fun p => if p = j then a (j + 1) else if p = j + 1 then a j else a p) := by
  have hle := h.le
  refine ⟨by omega, by show (if j = j then _ else _) = _; rw [if_pos rfl]; exact h.at_, fun p hp hn => ?_, fun p q hpq hq hp1 hq1 => ?_, fun p h1 h2 => ?_, fun p hp => ?_, fun k hk => ?_⟩
  · show (if p = j then _ else _) < _
    rw [if_neg hn]
    split
    · exact h.low j (by omega) (by omega)
    · exact h.low p hp (by assumption)
  · show Sooner xs ys (if p = j then _ else _) (if q = j then _ else _)
    rw [if_neg hp1, if_neg hq1]
    by_cases c1 : p = j + 1
    · rw [if_pos c1, if_neg (by omega)]
      exact h.inc j q (by omega) hq (by omega) (by omega)
    · rw [if_neg c1]
      by_cases c2 : q = j + 1
      · rw [if_pos c2]
        exact h.inc p j (by omega) (by omega) (by omega) (by omega)
      · rw [if_neg c2]
        exact h.inc p q hpq hq c1 c2
  · show _ * fn ys (if p = j then _ else _) < fn xs (if p = j then _ else _) * _
    rw [if_neg (by omega)]
    by_cases c : p = j + 1
    · rw [if_pos c]; exact hc
    · rw [if_neg c]; exact h.up p (by omega) h2
  · show (if p = j then _ else _) = _
    rw [if_neg (by omega), if_neg (by omega)]
    exact h.rest p hp
  · obtain ⟨p, hp, e⟩ := h.all k hk
    by_cases c1 : p = j + 1
    · exact ⟨j, by omega, by show (if j = j then _ else _) = _; rw [if_pos rfl, ← c1]; exact e⟩
    · by_cases c2 : p = j
      · exact ⟨j + 1, by omega, by show (if j + 1 = j then _ else _) = _; rw [if_neg (by omega), if_pos rfl, ← c2]; exact e⟩
      · exact ⟨p, hp, by show (if p = j then _ else _) = _; rw [if_neg c2, if_neg c1]; exact e⟩
theorem stop (h : Way xs ys i j a) (hv : ∀ k, k ≤ i → 1 ≤ fn ys k) (hc : 0 < j → fn xs (a (j - 1)) * fn ys i ≤ fn xs i * fn ys (a (j - 1))) : Srt xs ys (i + 1) a := by
  have hle := h.le
  refine ⟨fun p hp => ?_, fun p q hpq hq => ?_, fun p hp => h.rest p (by omega), fun k hk => ?_⟩
  · by_cases c : p = j
    · rw [c, h.at_]; omega
    · have := h.low p (by omega) c; omega
  · by_cases c1 : p = j
    · rw [c1, h.at_]
      exact .inl (h.up q (by omega) (by omega))
    · by_cases c2 : q = j
      · have h0 : 0 < j := by omega
        have l1 := h.low (j - 1) (by omega) (by omega)
        have k1 := hc h0
        have s1 : Sooner xs ys (a (j - 1)) i := by
          rcases Int.lt_or_le (fn xs (a (j - 1)) * fn ys i) (fn xs i * fn ys (a (j - 1))) with c | c
          · exact .inl c
          · exact .inr ⟨by omega, l1⟩
        rw [c2, h.at_]
        by_cases c3 : p = j - 1
        · rw [c3]; exact s1
        · have l2 := h.low p (by omega) c1
          exact (h.inc p (j - 1) (by omega) (by omega) c1 (by omega)).trans (hv _ (by omega)) (hv _ (by omega)) (hv _ (Nat.le_refl _)) s1
      · exact h.inc p q hpq (by omega) c1 c2
  · obtain ⟨p, hp, e⟩ := h.all k (by omega)
    exact ⟨p, by omega, e⟩
end Way
/-- Who is among the first p. -/
def met (o : Nat → Nat) : Nat → Nat → Bool
  | 0, _ => false
  | p + 1, j => met o p j || decide (j = o p)
theorem met_iff (o : Nat → Nat) : ∀ (p j : Nat), met o p j = true ↔ ∃ q, q < p ∧ o q = j
  | 0, j => ⟨fun h => Bool.noConfusion h, fun ⟨_, h, _⟩ => absurd h (by omega)⟩
  | p + 1, j => by
    show (met o p j || decide (j = o p)) = true ↔ _
    rw [Bool.or_eq_true, decide_eq_true_iff, met_iff o p j]
    constructor
    · rintro (⟨q, hq, e⟩ | e)
      · exact ⟨q, by omega, e⟩
      · exact ⟨p, by omega, e.symm⟩
    · rintro ⟨q, hq, e⟩
      by_cases c : q = p
      · exact .inr (by rw [← e, c])
      · exact .inl ⟨q, by omega, e⟩
theorem su_more {f : Nat → Int} {s : Nat → Bool} {k : Nat} (hs : s k = false) : ∀ {n : Nat}, k < n → su (fun j => if (s j || decide (j = k)) = true then f j else 0) n = su (fun j => if s j = true then f j else 0) n + f k
  | 0, h => by omega
  | n + 1, h => by
    rw [su_succ, su_succ]
    by_cases c : k = n
    · subst c
      have e := su_congr (f := fun j => if (s j || decide (j = k)) = true then f j else 0) (g := fun j => if s j = true then f j else 0) (n := k) (fun j hj => by
        have : decide (j = k) = false := decide_eq_false (by omega)
        show (if (s j || decide (j = k)) = true then f j else 0) = _
        rw [this, Bool.or_false])
      rw [e, if_pos (by simp), if_neg (by simp [hs])]
      omega
    · have e := su_more (f := f) hs (n := n) (by omega)
      have : decide (n = k) = false := decide_eq_false (by omega)
      rw [e, this, Bool.or_false]
      omega
namespace Srt
variable {xs ys : List Int} {n : Nat} {o : Nat → Nat}
theorem inj (h : Srt xs ys n o) {p q : Nat} (hpq : p < q) (hq : q < n) : o p ≠ o q := fun e => (e ▸ h.inc p q hpq hq : Sooner xs ys (o q) (o q)).irrefl
theorem su_met (h : Srt xs ys n o) (f : Nat → Int) : ∀ p, p ≤ n → su (fun q => f (o q)) p = su (fun j => if met o p j = true then f j else 0) n
  | 0, _ => by
    have e : su (fun j => if met o 0 j = true then f j else 0) n = su (fun k => 0 * f k) n := su_congr fun j _ => (Int.zero_mul _).symm
    rw [su_zero, e, su_mul, Int.zero_mul]
  | p + 1, hp => by
    rw [su_succ, su_met h f p (by omega)]
    have hm : met o p (o p) = false := by
      rw [Bool.eq_false_iff, Ne, met_iff]
      rintro ⟨q, hq, e⟩
      exact h.inj hq (by omega) e
    exact (su_more hm (h.low p (by omega))).symm
/-- What has gone in one piece when it is done. -/
theorem whole (h : Srt xs ys n o) (hv : ∀ j, j < n → 1 ≤ fn ys j) (hb : ∀ j, j < n → 0 ≤ fn xs j) {p : Nat} (hp : p < n) : su (fun q => fn xs (o q)) (p + 1) * fn ys (o p) ≤ gT (fn xs) (fn ys) n (o p) := by
  rw [h.su_met (fn xs) (p + 1) (by omega)]
  refine gT_whole (s := met o (p + 1)) (fun j hj => by have := hv j hj; omega) hb (h.low p hp) fun j hj hs => ?_
  obtain ⟨q, hq, rfl⟩ := (met_iff o _ j).1 hs
  by_cases c : q = p
  · subst c
    rw [Int.mul_comm]
    exact Int.le_refl _
  · have := (h.inc q p (by omega) hp).le
    rw [Int.mul_comm (fn ys (o q))]
    exact this
end Srt
end Go.Proofs.Ytemoleopabddnaa
