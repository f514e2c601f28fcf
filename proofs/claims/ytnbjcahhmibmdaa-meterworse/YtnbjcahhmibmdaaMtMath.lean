/- Meters of three colours, plain: what is valid, what arrives, how a packet is marked. -/
import Derived.Test.YtnbjcahhmibmdaaProg
namespace Go.Proofs.Ytnbjcahhmibmdaa

def btw (n l h : Int) : Bool := decide (l ≤ n) && decide (n ≤ h)
theorem btw_true {n l h : Int} : btw n l h = true ↔ l ≤ n ∧ n ≤ h := by simp [btw]
theorem btw_false {n l h : Int} : btw n l h = false ↔ n < l ∨ h < n := by
  unfold btw
  rw [Bool.and_eq_false_iff, decide_eq_false_iff_not, decide_eq_false_iff_not]
  omega
structure Mt where
  rate : Int
  burst : Int
  exc : Int
  fst : Int
  snd : Int
  tm : Int
def Mt.zero : Mt := ⟨0, 0, 0, 0, 0, 0⟩
def Mt.right (m : Mt) : Bool := btw m.rate 0 1048576 && (btw m.burst 0 1048576 && (btw m.exc 0 1048576 && (btw m.fst 0 m.burst && (btw m.snd 0 m.exc && btw m.tm 0 1099511627776))))
structure Mt.Ok (m : Mt) : Prop where
  r0 : 0 ≤ m.rate
  r1 : m.rate ≤ 1048576
  b0 : 0 ≤ m.burst
  b1 : m.burst ≤ 1048576
  e0 : 0 ≤ m.exc
  e1 : m.exc ≤ 1048576
  f0 : 0 ≤ m.fst
  f1 : m.fst ≤ m.burst
  s0 : 0 ≤ m.snd
  s1 : m.snd ≤ m.exc
  t0 : 0 ≤ m.tm
  t1 : m.tm ≤ 1099511627776
theorem Mt.right_iff {m : Mt} : m.right = true ↔ m.Ok := by
  unfold Mt.right
  simp only [Bool.and_eq_true, btw_true]
  constructor
  · rintro ⟨⟨a, b⟩, ⟨c, d⟩, ⟨e, f⟩, ⟨g, h⟩, ⟨i, j⟩, k, l⟩
    exact ⟨a, b, c, d, e, f, g, h, i, j, k, l⟩
  · rintro ⟨a, b, c, d, e, f, g, h, i, j, k, l⟩
    exact ⟨⟨a, b⟩, ⟨c, d⟩, ⟨e, f⟩, ⟨g, h⟩, ⟨i, j⟩, k, l⟩
theorem mul_le_of {a b A B : Int} (a0 : 0 ≤ a) (ha : a ≤ A) (b0 : 0 ≤ b) (hb : b ≤ B) : 0 ≤ a * b ∧ a * b ≤ A * B :=
  ⟨Int.mul_nonneg a0 b0, Int.le_trans (Int.mul_le_mul_of_nonneg_right ha b0) (Int.mul_le_mul_of_nonneg_left hb (by omega))⟩
/-- What arrives until a time. -/
def Mt.come (m : Mt) (t : Int) : Int := m.rate * (t - m.tm)
theorem Mt.Ok.come {m : Mt} (h : m.Ok) {t : Int} (h0 : m.tm ≤ t) (h1 : t ≤ 1099511627776) : 0 ≤ m.come t ∧ m.come t ≤ 1152921504606846976 := by
  have := mul_le_of h.r0 h.r1 (show 0 ≤ t - m.tm by omega) (show t - m.tm ≤ 1099511627776 by have := h.t0; omega)
  unfold Mt.come
  omega
/-- So many tokens are put in: into the first bucket, and what is over into the second one. -/
def Mt.pour (m : Mt) (c t : Int) : Mt := { m with fst := m.fst + min c (m.burst - m.fst), snd := m.snd + min (c - min c (m.burst - m.fst)) (m.exc - m.snd), tm := t }
def Mt.fill (m : Mt) (t : Int) : Mt := m.pour (m.come t) t
theorem Mt.Ok.pour {m : Mt} (h : m.Ok) {c t : Int} (hc : 0 ≤ c) (h0 : 0 ≤ t) (h1 : t ≤ 1099511627776) : (m.pour c t).Ok := by
  have f0 := h.f0; have f1 := h.f1; have s0 := h.s0; have s1 := h.s1
  exact ⟨h.r0, h.r1, h.b0, h.b1, h.e0, h.e1, by show 0 ≤ m.fst + min c (m.burst - m.fst); omega, by show m.fst + min c (m.burst - m.fst) ≤ m.burst; omega, by show 0 ≤ m.snd + min (c - min c (m.burst - m.fst)) (m.exc - m.snd); omega, by show m.snd + min (c - min c (m.burst - m.fst)) (m.exc - m.snd) ≤ m.exc; omega, h0, h1⟩
/-- What is above both buckets makes no difference. -/
theorem Mt.Ok.pour_clip {m : Mt} (h : m.Ok) {c d t : Int} (hc : 4194304 ≤ c) (hd : 4194304 ≤ d) : m.pour c t = m.pour d t := by
  have f0 := h.f0; have b1 := h.b1; have s0 := h.s0; have e1 := h.e1
  have g1 : min c (m.burst - m.fst) = m.burst - m.fst := by omega
  have g2 : min d (m.burst - m.fst) = m.burst - m.fst := by omega
  have g3 : min (c - (m.burst - m.fst)) (m.exc - m.snd) = m.exc - m.snd := by omega
  have g4 : min (d - (m.burst - m.fst)) (m.exc - m.snd) = m.exc - m.snd := by omega
  unfold Mt.pour
  rw [g1, g2, g3, g4]
/-- A packet is marked. -/
def Mt.mark (m : Mt) (n had : Int) : Mt × Int :=
  if had = 1 ∧ n ≤ m.fst then ({ m with fst := m.fst - n }, 1)
  else if had ≠ 3 ∧ n ≤ m.snd then ({ m with snd := m.snd - n }, 2)
  else (m, 3)
theorem Mt.Ok.mark {m : Mt} (h : m.Ok) {n had : Int} (hn : 0 ≤ n) : (m.mark n had).1.Ok ∧ (m.mark n had).1.tm = m.tm := by
  have f0 := h.f0; have f1 := h.f1; have s0 := h.s0; have s1 := h.s1
  unfold Mt.mark
  split
  · exact ⟨⟨h.r0, h.r1, h.b0, h.b1, h.e0, h.e1, by show 0 ≤ m.fst - n; omega, by show m.fst - n ≤ m.burst; omega, h.s0, h.s1, h.t0, h.t1⟩, rfl⟩
  · split
    · exact ⟨⟨h.r0, h.r1, h.b0, h.b1, h.e0, h.e1, h.f0, h.f1, by show 0 ≤ m.snd - n; omega, by show m.snd - n ≤ m.exc; omega, h.t0, h.t1⟩, rfl⟩
    · exact ⟨h, rfl⟩
def Mt.colour (m : Mt) (t n had : Int) : Mt × Int × Int :=
  if m.right = true then
    if btw had 1 3 = true then
      if btw t m.tm 1099511627776 = true ∧ btw n 0 1048576 = true then (((m.fill t).mark n had).1, ((m.fill t).mark n had).2, 0) else (Mt.zero, 0, 2)
    else (Mt.zero, 0, 5)
  else (Mt.zero, 0, 1)
theorem Mt.colour_form {m : Mt} {t n had : Int} (h : m.right = false) : m.colour t n had = (Mt.zero, 0, 1) := by unfold Mt.colour; rw [if_neg (by simp [h])]
theorem Mt.colour_kind {m : Mt} {t n had : Int} (h : m.right = true) (hh : btw had 1 3 = false) : m.colour t n had = (Mt.zero, 0, 5) := by unfold Mt.colour; rw [if_pos h, if_neg (by simp [hh])]
theorem Mt.colour_range {m : Mt} {t n had : Int} (h : m.right = true) (hh : btw had 1 3 = true) (hr : btw t m.tm 1099511627776 = false ∨ btw n 0 1048576 = false) : m.colour t n had = (Mt.zero, 0, 2) := by
  unfold Mt.colour
  rw [if_pos h, if_pos hh, if_neg (by rintro ⟨a, b⟩; rcases hr with c | c <;> simp_all)]
theorem Mt.colour_fine {m : Mt} {t n had : Int} (h : m.right = true) (hh : btw had 1 3 = true) (ht : btw t m.tm 1099511627776 = true) (hn : btw n 0 1048576 = true) : m.colour t n had = (((m.fill t).mark n had).1, ((m.fill t).mark n had).2, 0) := by
  unfold Mt.colour
  rw [if_pos h, if_pos hh, if_pos ⟨ht, hn⟩]
theorem Mt.Ok.fill {m : Mt} (h : m.Ok) {t : Int} (h0 : m.tm ≤ t) (h1 : t ≤ 1099511627776) : (m.fill t).Ok := h.pour (h.come h0 h1).1 (by have := h.t0; omega) h1
/-- What a colouring tells: the four ways. -/
inductive Mt.Way (m : Mt) (t n had : Int) : Mt × Int × Int → Prop
  | bad (c : Int) (hc : c ≠ 0) : Mt.Way m t n had (Mt.zero, 0, c)
  | good (h : m.Ok) (h1 : 1 ≤ had) (h3 : had ≤ 3) (t0 : m.tm ≤ t) (t1 : t ≤ 1099511627776) (n0 : 0 ≤ n) (n1 : n ≤ 1048576) : Mt.Way m t n had (((m.fill t).mark n had).1, ((m.fill t).mark n had).2, 0)
theorem Mt.way (m : Mt) (t n had : Int) : Mt.Way m t n had (m.colour t n had) := by
  cases h : m.right with
  | false => rw [Mt.colour_form h]; exact .bad 1 (by decide)
  | true =>
    cases hh : btw had 1 3 with
    | false => rw [Mt.colour_kind h hh]; exact .bad 5 (by decide)
    | true =>
      cases ht : btw t m.tm 1099511627776 with
      | false => rw [Mt.colour_range h hh (.inl ht)]; exact .bad 2 (by decide)
      | true =>
        cases hn : btw n 0 1048576 with
        | false => rw [Mt.colour_range h hh (.inr hn)]; exact .bad 2 (by decide)
        | true =>
          rw [Mt.colour_fine h hh ht hn]
          obtain ⟨a, b⟩ := btw_true.1 hh
          obtain ⟨c, d⟩ := btw_true.1 ht
          obtain ⟨e, f⟩ := btw_true.1 hn
          exact .good (Mt.right_iff.1 h) a b c d e f
end Go.Proofs.Ytnbjcahhmibmdaa
