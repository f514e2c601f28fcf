/- Meters, plain: what a packet takes, what red leaves, what was better before. -/
import Derived.Test.YtnbjcahhmibmdaaMtRun
namespace Go.Proofs.Ytnbjcahhmibmdaa

theorem fill_now {b : Mt} (h : b.Ok) : b.fill b.tm = b := by
  have f0 := h.f0; have f1 := h.f1; have s0 := h.s0; have s1 := h.s1
  have hz : b.come b.tm = 0 := by unfold Mt.come; rw [Int.sub_self, Int.mul_zero]
  have g1 : min 0 (b.burst - b.fst) = 0 := by omega
  have g2 : min (0 - 0) (b.exc - b.snd) = 0 := by omega
  unfold Mt.fill Mt.pour
  rw [hz, g1, g2, Int.add_zero, Int.add_zero]
theorem fill_twice {b : Mt} (h : b.Ok) {t u : Int} (h0 : b.tm ≤ t) (h1 : t ≤ u) (h2 : u ≤ 1099511627776) : (b.fill t).fill u = b.fill u := by
  have f0 := h.f0; have f1 := h.f1; have s0 := h.s0; have s1 := h.s1
  have c1 := (h.come h0 (by omega)).1
  have c2 : 0 ≤ (b.fill t).come u := (Mt.Ok.come (h.fill h0 (by omega)) (t := u) h1 h2).1
  have hs : b.come u = b.come t + (b.fill t).come u := by
    show b.rate * (u - b.tm) = b.rate * (t - b.tm) + b.rate * (u - t)
    rw [← Int.mul_add]
    congr 1
    omega
  obtain ⟨C, hC⟩ : ∃ C, b.come t = C := ⟨_, rfl⟩
  obtain ⟨D, hD⟩ : ∃ D, (b.fill t).come u = D := ⟨_, rfl⟩
  have e : ∀ m : Mt, m.fill u = m.pour (m.come u) u := fun _ => rfl
  rw [e, e, hs, hD, hC, show b.fill t = b.pour C t by rw [← hC]; rfl]
  rw [hC] at c1
  rw [hD] at c2
  unfold Mt.pour
  dsimp only
  congr 1 <;> omega
theorem shot_later {b : Mt} {t u n : Int} (h : (b.fill t).Shot u n) (h0 : b.tm ≤ t) : b.Shot u n := ⟨Int.le_trans h0 h.t0, h.t1, h.n0, h.n1⟩
theorem still_same {b : Mt} (h : b.Ok) {t u n : Int} (h0 : b.tm ≤ t) (h1 : t ≤ 1099511627776) {m : Mt} {c : Int} (hc : (b.fill t).colour u n 1 = (m, c, 0)) : b.colour u n 1 = (m, c, 0) := by
  rcases colour_ok (h.fill h0 h1) u n with ⟨k1, k2, _⟩ | k
  · rw [← hc, k2, fill_twice h h0 k1.t0 k1.t1]
    have s := shot_later k1 h0
    exact Mt.colour_fine (Mt.right_iff.2 h) (by decide) (btw_true.2 ⟨s.t0, s.t1⟩) (btw_true.2 ⟨s.n0, s.n1⟩)
  · rw [k] at hc
    injection hc with _ hc
    injection hc with _ hc
    cases hc
theorem mark_ge {b : Mt} {n had : Int} (h1 : 1 ≤ had) (h3 : had ≤ 3) : had ≤ (b.mark n had).2 ∧ (b.mark n had).2 ≤ 3 := by
  unfold Mt.mark
  split
  · dsimp only; omega
  · split
    · dsimp only; omega
    · dsimp only; omega
theorem mark_mono {b : Mt} {n had : Int} (h1 : 1 ≤ had) (h3 : had ≤ 2) : (b.mark n had).2 ≤ (b.mark n (had + 1)).2 := by
  unfold Mt.mark
  (repeat' split) <;> dsimp only <;> omega
/-- What a colouring now takes. -/
theorem sum_ways (b : Mt) (n : Int) : (∃ c, c ≠ 0 ∧ b.colour b.tm n 1 = (Mt.zero, 0, c)) ∨ (b.Ok ∧ 0 ≤ n ∧ n ≤ 1048576 ∧
    ((n ≤ b.fst ∧ b.colour b.tm n 1 = (⟨b.rate, b.burst, b.exc, b.fst - n, b.snd, b.tm⟩, 1, 0)) ∨ (b.fst < n ∧ n ≤ b.snd ∧ b.colour b.tm n 1 = (⟨b.rate, b.burst, b.exc, b.fst, b.snd - n, b.tm⟩, 2, 0)) ∨ (b.fst < n ∧ b.snd < n ∧ b.colour b.tm n 1 = (b, 3, 0)))) := by
  have hw := Mt.way b b.tm n 1
  generalize hX : b.colour b.tm n 1 = X at *
  cases hw with
  | bad c hc => exact .inl ⟨c, hc, rfl⟩
  | good h h1 h3 t0 t1 n0 n1 =>
    rw [fill_now h]
    refine .inr ⟨h, n0, n1, ?_⟩
    unfold Mt.mark
    by_cases c1 : n ≤ b.fst
    · rw [if_pos ⟨rfl, c1⟩]
      exact .inl ⟨c1, rfl⟩
    · rw [if_neg (fun e => c1 e.2)]
      by_cases c2 : n ≤ b.snd
      · rw [if_pos ⟨by decide, c2⟩]
        exact .inr (.inl ⟨by omega, c2, rfl⟩)
      · rw [if_neg (fun e => c2 e.2)]
        exact .inr (.inr ⟨by omega, by omega, rfl⟩)
/-- Red, or something else. -/
theorem still_ways (b : Mt) (t n : Int) : (∃ m c e, b.colour t n 1 = (m, c, e) ∧ (e ≠ 0 ∨ (e = 0 ∧ c ≠ 3))) ∨ (b.Ok ∧ b.tm ≤ t ∧ t ≤ 1099511627776 ∧ b.colour t n 1 = (b.fill t, 3, 0)) := by
  have hw := Mt.way b t n 1
  generalize hX : b.colour t n 1 = X at *
  cases hw with
  | bad c hc => exact .inl ⟨_, _, c, rfl, .inl hc⟩
  | good h h1 h3 t0 t1 n0 n1 =>
    by_cases c : ((b.fill t).mark n 1).2 = 3
    · refine .inr ⟨h, t0, t1, ?_⟩
      rw [c]
      revert c
      unfold Mt.mark
      split
      · intro c; simp at c
      · split
        · intro c; simp at c
        · intro _; rfl
    · exact .inl ⟨_, _, 0, rfl, .inr ⟨rfl, c⟩⟩
/-- The colour that a packet has, and the one that it would have had. -/
theorem worse_ways (b : Mt) (t n had : Int) : (∃ c, c ≠ 0 ∧ b.colour t n had = (Mt.zero, 0, c)) ∨ (1 ≤ had ∧ had ≤ 3 ∧ ∃ m c, b.colour t n had = (m, c, 0) ∧ had ≤ c ∧ c ≤ 3 ∧ m.right = true ∧ ∃ m' d f, b.colour t n (had + 1) = (m', d, f) ∧ (f ≠ 0 ∨ (f = 0 ∧ c ≤ d))) := by
  have hw := Mt.way b t n had
  generalize hX : b.colour t n had = X at *
  cases hw with
  | bad c hc => exact .inl ⟨c, hc, rfl⟩
  | good h h1 h3 t0 t1 n0 n1 =>
    obtain ⟨k1, k2⟩ := mark_ge (b := b.fill t) (n := n) h1 h3
    refine .inr ⟨h1, h3, _, _, rfl, k1, k2, Mt.right_iff.2 ((h.fill t0 t1).mark n0).1, ?_⟩
    by_cases c : had ≤ 2
    · exact ⟨_, _, 0, Mt.colour_fine (Mt.right_iff.2 h) (btw_true.2 ⟨by omega, by omega⟩) (btw_true.2 ⟨t0, t1⟩) (btw_true.2 ⟨n0, n1⟩), .inr ⟨rfl, mark_mono h1 c⟩⟩
    · exact ⟨_, _, 5, Mt.colour_kind (Mt.right_iff.2 h) (btw_false.2 (.inr (by omega))), .inl (by decide)⟩
end Go.Proofs.Ytnbjcahhmibmdaa
