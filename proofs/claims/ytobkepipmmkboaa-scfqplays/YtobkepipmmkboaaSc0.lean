/- Package scfq, plain: which weights are right; how great tags become. -/
import Derived.Test.YtobkepipmmkboaaScRun
namespace Go.Proofs.Ytobkepipmmkboaa

/-- A list as a function. -/
def fn (xs : List Int) (k : Nat) : Int := xs.getD k 0
theorem fn_at {xs : List Int} {k : Nat} {x : Int} (h : xs[k]? = some x) : fn xs k = x := by
  unfold fn
  rw [List.getD_eq_getElem?_getD, h]
  rfl
theorem at_fn {xs : List Int} {k : Nat} (h : k < xs.length) : xs[k]? = some (fn xs k) := by
  unfold fn
  rw [List.getD_eq_getElem?_getD, List.getElem?_eq_getElem h]
  rfl
def ww (n : Int) : Bool := decide (n < 1) || decide (12 < n)
theorem ww_false {n : Int} : ww n = false ↔ 1 ≤ n ∧ n ≤ 12 := by
  unfold ww
  rw [Bool.or_eq_false_iff, decide_eq_false_iff_not, decide_eq_false_iff_not]
  omega
/-- What Wrong says. -/
def wrongL (xs : List Int) : Int := if (decide (16 < (xs.length : Int)) || xs.any ww) = true then 2 else 0
structure Right (xs : List Int) : Prop where
  few : xs.length ≤ 16
  all : ∀ x ∈ xs, 1 ≤ x ∧ x ≤ 12
theorem wrongL_way (xs : List Int) : wrongL xs = 2 ∨ (wrongL xs = 0 ∧ Right xs) := by
  unfold wrongL
  by_cases c : (decide (16 < (xs.length : Int)) || xs.any ww) = true
  · rw [if_pos c]; exact .inl rfl
  · rw [if_neg c]
    rw [Bool.not_eq_true, Bool.or_eq_false_iff, decide_eq_false_iff_not, List.any_eq_false] at c
    exact .inr ⟨rfl, by omega, fun x hx => ww_false.1 (by simpa using c.2 x hx)⟩
theorem Right.wrong {xs : List Int} (h : Right xs) : wrongL xs = 0 := by
  unfold wrongL
  rw [if_neg]
  rw [Bool.not_eq_true, Bool.or_eq_false_iff, decide_eq_false_iff_not, List.any_eq_false]
  exact ⟨by have := h.few; omega, fun x hx => by simpa using ww_false.2 (h.all x hx)⟩
theorem Right.fn {xs : List Int} (h : Right xs) {k : Nat} (hk : k < xs.length) : 1 ≤ fn xs k ∧ fn xs k ≤ 12 := h.all _ (List.mem_of_getElem? (at_fn hk))
/-- How much a byte of a flow adds to its tag. -/
def uW (xs : List Int) (k : Nat) : Int := 27720 / fn xs k
theorem uW_mul {xs : List Int} (h : Right xs) {k : Nat} (hk : k < xs.length) : uW xs k * fn xs k = 27720 := by
  have h1 := h.fn hk
  unfold uW
  rcases (by omega : fn xs k = 1 ∨ fn xs k = 2 ∨ fn xs k = 3 ∨ fn xs k = 4 ∨ fn xs k = 5 ∨ fn xs k = 6 ∨ fn xs k = 7 ∨ fn xs k = 8 ∨ fn xs k = 9 ∨ fn xs k = 10 ∨ fn xs k = 11 ∨ fn xs k = 12) with e | e | e | e | e | e | e | e | e | e | e | e <;> rw [e] <;> rfl
theorem uW_bounds {xs : List Int} (h : Right xs) (k : Nat) : 0 ≤ uW xs k ∧ uW xs k ≤ 27720 := by
  by_cases hk : k < xs.length
  · have h1 := h.fn hk
    unfold uW
    rcases (by omega : fn xs k = 1 ∨ fn xs k = 2 ∨ fn xs k = 3 ∨ fn xs k = 4 ∨ fn xs k = 5 ∨ fn xs k = 6 ∨ fn xs k = 7 ∨ fn xs k = 8 ∨ fn xs k = 9 ∨ fn xs k = 10 ∨ fn xs k = 11 ∨ fn xs k = 12) with e | e | e | e | e | e | e | e | e | e | e | e <;> rw [e] <;> decide
  · have e : _root_.Go.Proofs.Ytobkepipmmkboaa.fn xs k = 0 := by
      unfold _root_.Go.Proofs.Ytobkepipmmkboaa.fn
      rw [List.getD_eq_getElem?_getD, List.getElem?_eq_none (by omega)]
      rfl
    unfold uW
    rw [e]
    decide
/-- How great all numbers are after so many operations. -/
structure Sc.Low (s : Sc) (i : Nat) : Prop where
  tm : 0 ≤ s.tm ∧ s.tm ≤ (i : Int) * 41580000
  last : ∀ f, 0 ≤ s.last f ∧ s.last f ≤ (i : Int) * 41580000
  tags : ∀ f, ∀ x ∈ s.q f, 0 ≤ x.2 ∧ x.2 ≤ (i : Int) * 41580000
  few : ∀ f, (s.q f).length ≤ i
theorem Sc.Low.zero : Sc.zero.Low 0 := ⟨⟨Int.le_refl _, by simp [Sc.zero]⟩, fun _ => ⟨Int.le_refl _, by simp [Sc.zero]⟩, fun _ _ h => (by cases h), fun _ => Nat.le_refl _⟩
theorem Sc.Low.mono {s : Sc} {i j : Nat} (h : s.Low i) (hij : i ≤ j) : s.Low j := by
  have h1 := h.tm
  exact ⟨by omega, fun f => by have := h.last f; omega, fun f x hx => by have := h.tags f x hx; omega, fun f => Nat.le_trans (h.few f) hij⟩
theorem Sc.Low.tag {s : Sc} {i : Nat} (h : s.Low i) {u : Nat → Int} (hu : ∀ k, 0 ≤ u k ∧ u k ≤ 27720) (f : Nat) {b : Int} (hb : 1 ≤ b ∧ b ≤ 1500) : 0 ≤ s.tag u f b ∧ s.tag u f b ≤ ((i + 1 : Nat) : Int) * 41580000 := by
  have h1 := h.tm
  have h2 := h.last f
  have h3 := Int.mul_nonneg (hu f).1 (show 0 ≤ b by omega)
  have h4 : u f * b ≤ 27720 * 1500 := Int.mul_le_mul (hu f).2 hb.2 (by omega) (by decide)
  unfold Sc.tag
  omega
theorem Sc.Low.come {s : Sc} {i : Nat} (h : s.Low i) {u : Nat → Int} (hu : ∀ k, 0 ≤ u k ∧ u k ≤ 27720) (f : Nat) {b : Int} (hb : 1 ≤ b ∧ b ≤ 1500) : (s.come u f b).Low (i + 1) := by
  have ht := h.tag hu f hb
  have hm := h.mono (Nat.le_succ i)
  refine ⟨hm.tm, fun k => ?_, fun k x hx => ?_, fun k => ?_⟩
  · show 0 ≤ (if k = f then s.tag u f b else s.last k) ∧ (if k = f then s.tag u f b else s.last k) ≤ _
    by_cases c : k = f
    · rw [if_pos c]; exact ht
    · rw [if_neg c]; exact hm.last k
  · have hx : x ∈ (if k = f then s.q f ++ [(b, s.tag u f b)] else s.q k) := hx
    by_cases c : k = f
    · rw [if_pos c] at hx
      rcases List.mem_append.1 hx with hx | hx
      · exact hm.tags f x hx
      · rw [List.mem_singleton] at hx
        subst hx
        exact ht
    · rw [if_neg c] at hx
      exact hm.tags k x hx
  · show (if k = f then s.q f ++ [(b, s.tag u f b)] else s.q k).length ≤ i + 1
    by_cases c : k = f
    · rw [if_pos c, List.length_append, List.length_singleton]
      have := h.few f
      omega
    · rw [if_neg c]
      exact hm.few k
theorem Sc.Low.send {s : Sc} {i : Nat} (h : s.Low i) {n f : Nat} {b g : Int} (hb : s.Best n f b g) : (s.send f g).Low i := by
  obtain ⟨r, hr⟩ := hb.has
  refine ⟨h.tags f (b, g) (by rw [hr]; simp), h.last, fun k x hx => ?_, fun k => ?_⟩
  · have hx : x ∈ (if k = f then (s.q f).tail else s.q k) := hx
    by_cases c : k = f
    · rw [if_pos c] at hx
      exact h.tags f x (List.mem_of_mem_tail hx)
    · rw [if_neg c] at hx
      exact h.tags k x hx
  · show (if k = f then (s.q f).tail else s.q k).length ≤ i
    by_cases c : k = f
    · rw [if_pos c, List.length_tail]
      have := h.few f
      omega
    · rw [if_neg c]
      exact h.few k
/-- A row of operations: errors, what was sent, how great the numbers are. -/
theorem scRun_low {u : Nat → Int} (hu : ∀ k, 0 ≤ u k ∧ u k ≤ 27720) (n : Nat) (os : List (Int × Int × Int)) : (scRun u n os).st.Low os.length ∧ (scRun u n os).errs.length = os.length ∧ (scRun u n os).sent.length ≤ os.length := by
  have key : ∀ (os : List (Int × Int × Int)) (t : ScAt) (i : Nat), t.st.Low i → (os.foldl (ScAt.step u n) t).st.Low (i + os.length) ∧ (os.foldl (ScAt.step u n) t).errs.length = t.errs.length + os.length ∧ (os.foldl (ScAt.step u n) t).sent.length ≤ t.sent.length + os.length := by
    intro os
    induction os with
    | nil => exact fun _ _ h => ⟨h, rfl, Nat.le_refl _⟩
    | cons o os ih =>
      intro t i h
      have fin : ∀ t' : ScAt, t'.st.Low (i + 1) → t'.errs.length = t.errs.length + 1 → t'.sent.length ≤ t.sent.length + 1 → (os.foldl (ScAt.step u n) t').st.Low (i + (o :: os).length) ∧ (os.foldl (ScAt.step u n) t').errs.length = t.errs.length + (o :: os).length ∧ (os.foldl (ScAt.step u n) t').sent.length ≤ t.sent.length + (o :: os).length := by
        intro t' h1 h2 h3
        obtain ⟨k1, k2, k3⟩ := ih t' (i + 1) h1
        rw [List.length_cons]
        refine ⟨?_, by omega, by omega⟩
        rwa [show i + (os.length + 1) = i + 1 + os.length by omega]
      rcases t.way u n o with ⟨_, e⟩ | ⟨f, _, _, hf, h1, h2, _, e⟩ | ⟨f, b, g, _, _, hb, _, e⟩
      · refine fin _ ?_ ?_ ?_ <;> rw [e]
        · exact h.mono (Nat.le_succ i)
        · simp
        · simp
      · refine fin _ ?_ ?_ ?_ <;> rw [e]
        · exact h.come hu f ⟨h1, h2⟩
        · simp
        · simp
      · refine fin _ ?_ ?_ ?_ <;> rw [e]
        · exact (h.send hb).mono (Nat.le_succ i)
        · simp
        · simp
  have := key os ⟨[], [], Sc.zero⟩ 0 Sc.Low.zero
  rw [Nat.zero_add] at this
  exact ⟨this.1, by simpa [scRun] using this.2.1, by simpa [scRun] using this.2.2⟩
/-- How far the operations have come, with what is known. -/
theorem scRun_at {xs : List Int} (h : Right xs) {os : List (Int × Int × Int)} (hn : os.length ≤ 400) (i : Nat) : (scRun (uW xs) xs.length (os.take i)).st.Low 400 ∧ (scRun (uW xs) xs.length (os.take i)).errs.length = min i os.length ∧ (scRun (uW xs) xs.length (os.take i)).sent.length ≤ 400 ∧ (scRun (uW xs) xs.length (os.take i)).st.Good (uW xs) xs.length := by
  obtain ⟨h1, h2, h3⟩ := scRun_low (fun k => uW_bounds h k) xs.length (os.take i)
  rw [List.length_take] at h1 h2 h3
  exact ⟨h1.mono (by omega), h2, by omega, scRun_good (fun k => (uW_bounds h k).1) _ _⟩
end Go.Proofs.Ytobkepipmmkboaa
