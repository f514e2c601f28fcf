/- Self-clocked fair queueing, plain: tags, who is sent, what every operation keeps; two that both wait are served alike. -/
import Derived.Test.YtobkepipmmkboaaWd0
namespace Go.Proofs.Ytobkepipmmkboaa

/-- The virtual time; the tag of the packet that came last, of each flow; who waits: bytes and tag, the first one first. -/
structure Sc where
  tm : Int
  last : Nat → Int
  q : Nat → List (Int × Int)
def Sc.tag (s : Sc) (u : Nat → Int) (f : Nat) (b : Int) : Int := max s.tm (s.last f) + u f * b
def Sc.come (s : Sc) (u : Nat → Int) (f : Nat) (b : Int) : Sc := ⟨s.tm, fun k => if k = f then s.tag u f b else s.last k, fun k => if k = f then s.q f ++ [(b, s.tag u f b)] else s.q k⟩
def Sc.send (s : Sc) (f : Nat) (g : Int) : Sc := ⟨g, s.last, fun k => if k = f then (s.q f).tail else s.q k⟩
/-- Each one's tag is that of the one ahead, and its own length: from a on, to l. -/
def chn (u : Int) : Int → List (Int × Int) → Int → Prop
  | a, [], l => a = l
  | a, (b, g) :: r, l => g = a + u * b ∧ chn u g r l
theorem chn_append {u b : Int} : ∀ {q : List (Int × Int)} {a l : Int}, chn u a q l → chn u a (q ++ [(b, l + u * b)]) (l + u * b)
  | [], a, l, h => by
    have h : a = l := h
    subst h
    exact ⟨rfl, rfl⟩
  | (c, g) :: r, a, l, h => ⟨h.1, chn_append h.2⟩
theorem chn_le {u : Int} (hu : 0 ≤ u) : ∀ {q : List (Int × Int)} {a l : Int}, (∀ x ∈ q, 1 ≤ x.1) → chn u a q l → a ≤ l
  | [], a, l, _, h => by
    have h : a = l := h
    omega
  | (c, g) :: r, a, l, hs, h => by
    have h1 := chn_le hu (fun x hx => hs x (by simp [hx])) h.2
    have h2 := h.1
    have h3 := Int.mul_nonneg hu (show 0 ≤ c by have := hs (c, g) (by simp); dsimp only at this; omega)
    omega
/-- What every operation keeps. -/
structure Sc.Good (s : Sc) (u : Nat → Int) (n : Nat) : Prop where
  size : ∀ f, ∀ x ∈ s.q f, 1 ≤ x.1 ∧ x.1 ≤ 1500
  out : ∀ k, n ≤ k → s.q k = []
  idle : ∀ f, s.q f = [] → s.last f ≤ s.tm
  busy : ∀ f b g r, s.q f = (b, g) :: r → g - u f * b ≤ s.tm ∧ s.tm ≤ g ∧ chn (u f) g r (s.last f)
theorem Sc.Good.start (u : Nat → Int) (n : Nat) : (Sc.mk 0 (fun _ => 0) (fun _ => [])).Good u n :=
  ⟨fun _ _ h => (by cases h), fun _ _ => rfl, fun _ _ => Int.le_refl _, fun _ _ _ _ h => (by cases h)⟩
theorem Sc.Good.come {s : Sc} {u : Nat → Int} {n : Nat} (h : s.Good u n) (hu : ∀ k, 0 ≤ u k) {f : Nat} (hf : f < n) {b : Int} (hb : 1 ≤ b ∧ b ≤ 1500) : (s.come u f b).Good u n := by
  have hub := Int.mul_nonneg (hu f) (show 0 ≤ b by omega)
  refine ⟨fun k x hx => ?_, fun k hk => ?_, fun k hk => ?_, fun k b' g' r' hk => ?_⟩
  · simp only [Sc.come] at hx
    by_cases c : k = f
    · rw [if_pos c] at hx
      rcases List.mem_append.1 hx with hx | hx
      · exact h.size f x hx
      · simp only [List.mem_singleton] at hx
        subst hx
        exact hb
    · rw [if_neg c] at hx
      exact h.size k x hx
  · show (if k = f then _ else s.q k) = []
    rw [if_neg (by omega)]
    exact h.out k hk
  · simp only [Sc.come] at hk ⊢
    by_cases c : k = f
    · rw [if_pos c] at hk
      simp at hk
    · rw [if_neg c] at hk ⊢
      exact h.idle k hk
  · simp only [Sc.come] at hk ⊢
    by_cases c : k = f
    · subst c
      rw [if_pos rfl] at hk ⊢
      unfold Sc.tag at *
      cases hq : s.q k with
      | nil =>
        rw [hq] at hk
        simp only [List.nil_append, List.cons.injEq, Prod.mk.injEq] at hk
        obtain ⟨⟨rfl, rfl⟩, rfl⟩ := hk
        have := h.idle k hq
        exact ⟨by omega, by omega, rfl⟩
      | cons x r =>
        obtain ⟨b0, g0⟩ := x
        rw [hq] at hk
        simp only [List.cons_append, List.cons.injEq, Prod.mk.injEq] at hk
        obtain ⟨⟨rfl, rfl⟩, rfl⟩ := hk
        obtain ⟨h1, h2, h3⟩ := h.busy k _ _ _ hq
        have h4 := chn_le (hu k) (fun x hx => (h.size k x (by rw [hq]; simp [hx])).1) h3
        rw [show max s.tm (s.last k) = s.last k by omega]
        exact ⟨h1, h2, chn_append h3⟩
    · rw [if_neg c] at hk ⊢
      exact h.busy k b' g' r' hk
/-- Who is sent: the smallest tag among the first ones, of equal tags the smallest flow. -/
structure Sc.Best (s : Sc) (n f : Nat) (b g : Int) : Prop where
  lt : f < n
  has : ∃ r, s.q f = (b, g) :: r
  low : ∀ k b' g' r', k < n → s.q k = (b', g') :: r' → g ≤ g' ∧ (k < f → g < g')
theorem Sc.Best.unique {s : Sc} {n f f' : Nat} {b g b' g' : Int} (h : s.Best n f b g) (h' : s.Best n f' b' g') : f = f' ∧ b = b' ∧ g = g' := by
  obtain ⟨r, hr⟩ := h.has
  obtain ⟨r', hr'⟩ := h'.has
  have h1 := h.low f' _ _ _ h'.lt hr'
  have h2 := h'.low f _ _ _ h.lt hr
  have e : f = f' := by
    rcases Nat.lt_trichotomy f f' with c | c | c
    · have := h2.2 c; omega
    · exact c
    · have := h1.2 c; omega
  subst e
  rw [hr] at hr'
  simp only [List.cons.injEq, Prod.mk.injEq] at hr'
  exact ⟨rfl, hr'.1.1, hr'.1.2⟩
theorem Sc.Good.send {s : Sc} {u : Nat → Int} {n : Nat} (h : s.Good u n) (hu : ∀ k, 0 ≤ u k) {f : Nat} {b g : Int} (hb : s.Best n f b g) : (s.send f g).Good u n := by
  obtain ⟨r, hr⟩ := hb.has
  obtain ⟨h1, h2, h3⟩ := h.busy f _ _ _ hr
  refine ⟨fun k x hx => ?_, fun k hk => ?_, fun k hk => ?_, fun k b' g' r' hk => ?_⟩
  · simp only [Sc.send] at hx
    by_cases c : k = f
    · rw [if_pos c, hr] at hx
      exact h.size f x (by rw [hr]; exact List.mem_cons_of_mem _ hx)
    · rw [if_neg c] at hx
      exact h.size k x hx
  · show (if k = f then _ else s.q k) = []
    rw [if_neg (by have := hb.lt; omega)]
    exact h.out k hk
  · simp only [Sc.send] at hk ⊢
    by_cases c : k = f
    · subst c
      rw [if_pos rfl, hr] at hk
      have hk : r = [] := hk
      subst hk
      have h3 : g = s.last k := h3
      omega
    · rw [if_neg c] at hk
      have := h.idle k hk
      omega
  · simp only [Sc.send] at hk ⊢
    by_cases c : k = f
    · subst c
      rw [if_pos rfl, hr] at hk
      have hk : r = (b', g') :: r' := hk
      subst hk
      obtain ⟨h4, h5⟩ := h3
      have := Int.mul_nonneg (hu k) (show 0 ≤ b' by have := h.size k (b', g') (by rw [hr]; simp); dsimp only at this; omega)
      exact ⟨by omega, by omega, h5⟩
    · rw [if_neg c] at hk
      obtain ⟨k1, k2, k3⟩ := h.busy k _ _ _ hk
      have hkn : k < n := by
        by_cases c2 : k < n
        · exact c2
        · rw [h.out k (by omega)] at hk
          cases hk
      have := (hb.low k _ _ _ hkn hk).1
      exact ⟨by omega, this, k3⟩

/-- Who is sent, found flow by flow: flow, bytes, tag. -/
def bestF (q : Nat → List (Int × Int)) : Nat → Option (Nat × Int × Int)
  | 0 => none
  | n + 1 => match q n with
    | [] => bestF q n
    | (b, g) :: _ => match bestF q n with
      | none => some (n, b, g)
      | some x => if g < x.2.2 then some (n, b, g) else some x
theorem bestF_none {q : Nat → List (Int × Int)} : ∀ {n : Nat}, bestF q n = none → ∀ k, k < n → q k = []
  | 0, _, k, hk => by omega
  | n + 1, h, k, hk => by
    unfold bestF at h
    cases hq : q n with
    | nil =>
      rw [hq] at h
      by_cases c : k = n
      · subst c; exact hq
      · exact bestF_none h k (by omega)
    | cons x r =>
      rw [hq] at h
      dsimp only at h
      split at h
      · cases h
      · split at h <;> cases h
theorem bestF_some {s : Sc} : ∀ {n f : Nat} {b g : Int}, bestF s.q n = some (f, b, g) → s.Best n f b g
  | 0, _, _, _, h => by cases h
  | n + 1, f, b, g, h => by
    unfold bestF at h
    cases hq : s.q n with
    | nil =>
      rw [hq] at h
      have ih := bestF_some h
      refine ⟨by have := ih.lt; omega, ih.has, fun k b' g' r' hk hr => ?_⟩
      by_cases c : k = n
      · subst c; rw [hq] at hr; cases hr
      · exact ih.low k b' g' r' (by omega) hr
    | cons x r =>
      obtain ⟨b0, g0⟩ := x
      rw [hq] at h
      dsimp only at h
      split at h
      · rename_i hn
        simp only [Option.some.injEq, Prod.mk.injEq] at h
        obtain ⟨rfl, rfl, rfl⟩ := h
        refine ⟨by omega, ⟨r, hq⟩, fun k b' g' r' hk hr => ?_⟩
        by_cases c : k = n
        · subst c
          rw [hq] at hr
          simp only [List.cons.injEq, Prod.mk.injEq] at hr
          omega
        · have := bestF_none hn k (by omega)
          rw [this] at hr
          cases hr
      · rename_i y hy
        obtain ⟨f1, b1, g1⟩ := y
        have ih := bestF_some hy
        split at h
        · rename_i hlt
          simp only [Option.some.injEq, Prod.mk.injEq] at h
          obtain ⟨rfl, rfl, rfl⟩ := h
          have hlt : g0 < g1 := hlt
          refine ⟨by omega, ⟨r, hq⟩, fun k b' g' r' hk hr => ?_⟩
          by_cases c : k = n
          · subst c
            rw [hq] at hr
            simp only [List.cons.injEq, Prod.mk.injEq] at hr
            omega
          · have := ih.low k b' g' r' (by omega) hr
            omega
        · rename_i hge
          simp only [Option.some.injEq, Prod.mk.injEq] at h
          obtain ⟨rfl, rfl, rfl⟩ := h
          have hge : ¬ g0 < g1 := hge
          refine ⟨by have := ih.lt; omega, ih.has, fun k b' g' r' hk hr => ?_⟩
          by_cases c : k = n
          · subst c
            rw [hq] at hr
            simp only [List.cons.injEq, Prod.mk.injEq] at hr
            have := ih.lt
            omega
          · exact ih.low k b' g' r' (by omega) hr

/-! ### two that both wait -/
/-- When the first packet of a flow begins. -/
def Sc.st (s : Sc) (u : Nat → Int) (f : Nat) : Int := match s.q f with
  | [] => 0
  | (b, g) :: _ => g - u f * b
theorem Sc.Good.near {s : Sc} {u : Nat → Int} {n : Nat} (h : s.Good u n) (hu : ∀ k, 0 ≤ u k) {f : Nat} (hf : s.q f ≠ []) : s.st u f ≤ s.tm ∧ s.tm ≤ s.st u f + u f * 1500 := by
  cases hq : s.q f with
  | nil => exact absurd hq hf
  | cons x r =>
    obtain ⟨b, g⟩ := x
    obtain ⟨h1, h2, _⟩ := h.busy f _ _ _ hq
    have hs := (h.size f (b, g) (by rw [hq]; simp)).2
    have h3 := Int.mul_le_mul_of_nonneg_left hs (hu f)
    unfold Sc.st
    rw [hq]
    dsimp only at h3 ⊢
    omega
theorem Sc.st_come (s : Sc) (u : Nat → Int) (f : Nat) (b : Int) {k : Nat} (hk : s.q k ≠ []) : (s.come u f b).st u k = s.st u k ∧ (s.come u f b).q k ≠ [] := by
  unfold Sc.st Sc.come
  dsimp only
  by_cases c : k = f
  · subst c
    cases hq : s.q k with
    | nil => exact absurd hq hk
    | cons x r =>
      rw [if_pos rfl]
      simp
  · rw [if_neg c]
    exact ⟨rfl, hk⟩
theorem Sc.st_send (s : Sc) (u : Nat → Int) (f : Nat) (g : Int) {k : Nat} (hk : k ≠ f) : (s.send f g).st u k = s.st u k := by
  unfold Sc.st Sc.send
  dsimp only
  rw [if_neg hk]
/-- Who is sent and waits yet begins anew where it was done. -/
theorem Sc.Good.st_own {s : Sc} {u : Nat → Int} {n : Nat} (h : s.Good u n) {f : Nat} {b g : Int} (hb : s.Best n f b g) (hr : (s.send f g).q f ≠ []) : (s.send f g).st u f = s.st u f + u f * b := by
  obtain ⟨r, hq⟩ := hb.has
  obtain ⟨_, _, h3⟩ := h.busy f _ _ _ hq
  unfold Sc.st Sc.send at *
  dsimp only at hr ⊢
  rw [if_pos rfl, hq] at hr
  rw [if_pos rfl, hq]
  cases r with
  | nil => exact absurd rfl hr
  | cons y r =>
    obtain ⟨b2, g2⟩ := y
    have := h3.1
    dsimp only [List.tail]
    omega
/-- How far apart the two begin, by their weights (u times w is 27720 for each). -/
theorem fair_bounds {s : Sc} {u w : Nat → Int} {n : Nat} (h : s.Good u n) (hu : ∀ k, 0 ≤ u k) {a b : Nat} (ha : s.q a ≠ []) (hb : s.q b ≠ []) (wa : 1 ≤ w a) (wb : 1 ≤ w b) (ea : u a * w a = 27720) (eb : u b * w b = 27720) :
    -(41580000 * w b) ≤ w a * w b * (s.st u a - s.st u b) ∧ w a * w b * (s.st u a - s.st u b) ≤ 41580000 * w a := by
  have h1 := h.near hu ha
  have h2 := h.near hu hb
  have hw : 0 ≤ w a * w b := Int.mul_nonneg (by omega) (by omega)
  have k1 := Int.mul_le_mul_of_nonneg_left (show s.st u a - s.st u b ≤ u b * 1500 by omega) hw
  have k2 := Int.mul_le_mul_of_nonneg_left (show -(u a * 1500) ≤ s.st u a - s.st u b by omega) hw
  have e1 : w a * w b * (u b * 1500) = 41580000 * w a := by
    rw [show w a * w b * (u b * 1500) = w a * (u b * w b) * 1500 by rw [← Int.mul_assoc, Int.mul_assoc (w a), Int.mul_comm (w b)], eb]
    omega
  have e2 : w a * w b * -(u a * 1500) = -(41580000 * w b) := by
    rw [Int.mul_neg, show w a * w b * (u a * 1500) = (u a * w a) * w b * 1500 by rw [← Int.mul_assoc, Int.mul_right_comm (w a), Int.mul_comm (w a)], ea]
    omega
  omega
/-- A packet of a is sent: the two begin so much further apart. -/
theorem fair_left {u w : Nat → Int} {a b : Nat} {x y m : Int} (ea : u a * w a = 27720) : w a * w b * (x + u a * m - y) = w a * w b * (x - y) + 27720 * (m * w b) := by
  rw [show x + u a * m - y = (x - y) + u a * m by omega, Int.mul_add]
  congr 1
  rw [show w a * w b * (u a * m) = (u a * w a) * (m * w b) by
    rw [Int.mul_comm (u a) (w a), Int.mul_assoc, Int.mul_assoc, Int.mul_left_comm (w b), Int.mul_comm (w b) m], ea]
theorem fair_right {u w : Nat → Int} {a b : Nat} {x y m : Int} (eb : u b * w b = 27720) : w a * w b * (x - (y + u b * m)) = w a * w b * (x - y) - 27720 * (m * w a) := by
  rw [show x - (y + u b * m) = (x - y) - u b * m by omega, Int.mul_sub]
  congr 1
  rw [show w a * w b * (u b * m) = (u b * w b) * (m * w a) by
    rw [Int.mul_comm (w a), Int.mul_assoc, Int.mul_left_comm (w a), ← Int.mul_assoc, Int.mul_comm (w b), Int.mul_comm (w a)], eb]
end Go.Proofs.Ytobkepipmmkboaa
