/- Token buckets, plain: what is valid, the level at a time, what a shot takes, when it is ready. -/
import Derived.Test.YtkcfhjbppnchoaaProg
namespace Go.Proofs.Ytkcfhjbppnchoaa

def btw (n l h : Int) : Bool := decide (l ≤ n) && decide (n ≤ h)
theorem btw_true {n l h : Int} : btw n l h = true ↔ l ≤ n ∧ n ≤ h := by simp [btw]
theorem btw_false {n l h : Int} : btw n l h = false ↔ n < l ∨ h < n := by
  unfold btw
  rw [Bool.and_eq_false_iff, decide_eq_false_iff_not, decide_eq_false_iff_not]
  omega
structure Bk where
  num : Int
  den : Int
  burst : Int
  lev : Int
  tm : Int
def Bk.zero : Bk := ⟨0, 0, 0, 0, 0⟩
/-- The rate, the parts and the burst are as they must be. -/
def rate (num den burst : Int) : Bool := btw num 0 1048576 && (btw burst 0 1048576 && btw den 1 1048576)
def Bk.right (b : Bk) : Bool := btw b.num 0 1048576 && (btw b.burst 0 1048576 && (btw b.den 1 1048576 && (btw b.lev 0 (b.burst * b.den) && btw b.tm 0 1099511627776)))
structure Bk.Ok (b : Bk) : Prop where
  n0 : 0 ≤ b.num
  n1 : b.num ≤ 1048576
  u0 : 0 ≤ b.burst
  u1 : b.burst ≤ 1048576
  d0 : 1 ≤ b.den
  d1 : b.den ≤ 1048576
  l0 : 0 ≤ b.lev
  l1 : b.lev ≤ b.burst * b.den
  t0 : 0 ≤ b.tm
  t1 : b.tm ≤ 1099511627776
theorem Bk.right_iff {b : Bk} : b.right = true ↔ b.Ok := by
  unfold Bk.right
  simp only [Bool.and_eq_true, btw_true]
  constructor
  · rintro ⟨⟨a, b⟩, ⟨c, d⟩, ⟨e, f⟩, ⟨g, h⟩, i, j⟩
    exact ⟨a, b, c, d, e, f, g, h, i, j⟩
  · rintro ⟨a, b, c, d, e, f, g, h, i, j⟩
    exact ⟨⟨a, b⟩, ⟨c, d⟩, ⟨e, f⟩, ⟨g, h⟩, i, j⟩
theorem mul_le_of {a b A B : Int} (a0 : 0 ≤ a) (ha : a ≤ A) (b0 : 0 ≤ b) (hb : b ≤ B) : 0 ≤ a * b ∧ a * b ≤ A * B :=
  ⟨Int.mul_nonneg a0 b0, Int.le_trans (Int.mul_le_mul_of_nonneg_right ha b0) (Int.mul_le_mul_of_nonneg_left hb (by omega))⟩
theorem Bk.Ok.most {b : Bk} (h : b.Ok) : 0 ≤ b.burst * b.den ∧ b.burst * b.den ≤ 1099511627776 := by
  have := mul_le_of h.u0 h.u1 (by have := h.d0; omega) h.d1
  omega
theorem Bk.Ok.comes {b : Bk} (h : b.Ok) {t : Int} (h0 : b.tm ≤ t) (h1 : t ≤ 1099511627776) : 0 ≤ b.num * (t - b.tm) ∧ b.num * (t - b.tm) ≤ 1152921504606846976 := by
  have := mul_le_of h.n0 h.n1 (show 0 ≤ t - b.tm by omega) (show t - b.tm ≤ 1099511627776 by have := h.t0; omega)
  omega
/-- What is there at a time. -/
def Bk.level (b : Bk) (t : Int) : Int := min (b.lev + b.num * (t - b.tm)) (b.burst * b.den)
def Bk.to (b : Bk) (t : Int) : Bk := { b with lev := b.level t, tm := t }
theorem Bk.Ok.level {b : Bk} (h : b.Ok) {t : Int} (h0 : b.tm ≤ t) (h1 : t ≤ 1099511627776) : 0 ≤ b.level t ∧ b.level t ≤ b.burst * b.den := by
  have := h.comes h0 h1
  have := h.l0
  have := h.most
  unfold Bk.level
  omega
theorem Bk.Ok.to {b : Bk} (h : b.Ok) {t : Int} (h0 : b.tm ≤ t) (h1 : t ≤ 1099511627776) : (b.to t).Ok :=
  ⟨h.n0, h.n1, h.u0, h.u1, h.d0, h.d1, (h.level h0 h1).1, (h.level h0 h1).2, by have := h.t0; show 0 ≤ t; omega, h1⟩
def Bk.fill (b : Bk) (t : Int) : Bk × Int :=
  if b.right = true then if btw t b.tm 1099511627776 = true then (b.to t, 0) else (Bk.zero, 2) else (Bk.zero, 1)
def Bk.full (num den burst : Int) : Bk := ⟨num, den, burst, burst * den, 0⟩
theorem full_right (num den burst : Int) : (Bk.full num den burst).right = rate num den burst := by
  rw [Bool.eq_iff_iff, Bk.right_iff]
  unfold rate
  simp only [Bool.and_eq_true, btw_true]
  constructor
  · rintro ⟨a, b, c, d, e, f, g, h, i, j⟩
    exact ⟨⟨a, b⟩, ⟨c, d⟩, e, f⟩
  · rintro ⟨⟨a, b⟩, ⟨c, d⟩, e, f⟩
    have := mul_le_of (A := 1048576) (B := 1048576) c d (show 0 ≤ den by omega) f
    exact ⟨a, b, c, d, e, f, this.1, Int.le_refl _, by show (0 : Int) ≤ 0; decide, by show (0 : Int) ≤ 1099511627776; decide⟩
/-- A shot: n bytes at time t. -/
def Bk.shoot (b : Bk) (t n : Int) : Bk × Bool :=
  if n * b.den ≤ b.level t then ({ b.to t with lev := b.level t - n * b.den }, true) else (b.to t, false)
def Bk.take (b : Bk) (t n : Int) : Bk × Bool × Int :=
  if b.right = true then if btw t b.tm 1099511627776 = true then if btw n 0 1048576 = true then ((b.shoot t n).1, (b.shoot t n).2, 0) else (Bk.zero, false, 2) else (Bk.zero, false, 2) else (Bk.zero, false, 1)
theorem Bk.Ok.needs {b : Bk} (h : b.Ok) {n : Int} (h0 : 0 ≤ n) (h1 : n ≤ 1048576) : 0 ≤ n * b.den ∧ n * b.den ≤ 1099511627776 := by
  have := mul_le_of h0 h1 (show 0 ≤ b.den by have := h.d0; omega) h.d1
  omega
theorem Bk.Ok.shoot {b : Bk} (h : b.Ok) {t n : Int} (h0 : b.tm ≤ t) (h1 : t ≤ 1099511627776) (n0 : 0 ≤ n) (n1 : n ≤ 1048576) : (b.shoot t n).1.Ok ∧ (b.shoot t n).1.tm = t ∧ (b.shoot t n).1.den = b.den ∧ (b.shoot t n).1.num = b.num ∧ (b.shoot t n).1.burst = b.burst := by
  have hn := h.needs n0 n1
  have hl := h.level h0 h1
  unfold Bk.shoot
  split
  · exact ⟨⟨h.n0, h.n1, h.u0, h.u1, h.d0, h.d1, by show 0 ≤ b.level t - n * b.den; omega, by show b.level t - n * b.den ≤ b.burst * b.den; omega, by have := h.t0; show 0 ≤ t; omega, h1⟩, rfl, rfl, rfl, rfl⟩
  · exact ⟨h.to h0 h1, rfl, rfl, rfl, rfl⟩
/-- Are there tokens for n bytes at time t? -/
def Bk.can (b : Bk) (n t : Int) : Bool := decide (n * b.den ≤ b.level t)
/-- The time from which on there are: how long to wait. -/
def Bk.wait (b : Bk) (n : Int) : Int := b.tm + (n * b.den - b.lev + b.num - 1) / b.num
def Bk.ready (b : Bk) (n : Int) : Int × Bool × Int :=
  if b.right = true then if btw n 0 1048576 = true then
    if n * b.den ≤ b.lev then (b.tm, true, 0)
    else if b.burst < n then (0, false, 0)
    else if b.num = 0 then (0, false, 0)
    else if 1099511627776 < b.wait n then (0, false, 0)
    else (b.wait n, true, 0)
  else (0, false, 2) else (0, false, 1)
theorem Bk.can_iff {b : Bk} {n t : Int} : b.can n t = true ↔ n * b.den ≤ b.lev + b.num * (t - b.tm) ∧ n * b.den ≤ b.burst * b.den := by
  unfold Bk.can Bk.level
  rw [decide_eq_true_iff]
  omega
theorem burst_le {b : Bk} (h : b.Ok) {n : Int} : n * b.den ≤ b.burst * b.den ↔ n ≤ b.burst := by
  have d := h.d0
  constructor
  · intro e
    rcases (by omega : b.burst < n ∨ n ≤ b.burst) with c | c
    · have := Int.mul_le_mul_of_nonneg_right (show b.burst + 1 ≤ n by omega) (show 0 ≤ b.den by omega)
      rw [Int.add_mul, Int.one_mul] at this
      omega
    · exact c
  · intro e
    exact Int.mul_le_mul_of_nonneg_right e (by omega)
theorem wait_iff {K m x : Int} (hm : 0 < m) : K ≤ m * x ↔ (K + m - 1) / m ≤ x := by
  have h1 := Int.mul_ediv_add_emod (K + m - 1) m
  have h2 := Int.emod_nonneg (K + m - 1) (show m ≠ 0 by omega)
  have h3 := Int.emod_lt_of_pos (K + m - 1) hm
  constructor
  · intro h
    have : K + m - 1 < m * (x + 1) := by rw [Int.mul_add, Int.mul_one]; omega
    have := Int.ediv_lt_of_lt_mul hm (by rwa [Int.mul_comm] at this)
    omega
  · intro h
    have := Int.mul_le_mul_of_nonneg_left h (show 0 ≤ m by omega)
    omega
theorem Bk.Ok.wait {b : Bk} (h : b.Ok) {n : Int} (n1 : n ≤ 1048576) (hl : b.lev < n * b.den) (hn : b.num ≠ 0) : b.tm < b.wait n ∧ b.wait n ≤ 2199023255552 ∧ ∀ t, (n * b.den ≤ b.lev + b.num * (t - b.tm) ↔ b.wait n ≤ t) := by
  have h0 := h.n0
  have hm : 0 < b.num := by omega
  have key : ∀ t, n * b.den ≤ b.lev + b.num * (t - b.tm) ↔ b.wait n ≤ t := fun t => by
    have := wait_iff (K := n * b.den - b.lev) (x := t - b.tm) hm
    unfold Bk.wait
    constructor
    · intro e
      have := this.1 (by omega)
      omega
    · intro e
      have := this.2 (by omega)
      omega
  refine ⟨?_, ?_, key⟩
  · rcases (by omega : b.tm < b.wait n ∨ b.wait n ≤ b.tm) with c | c
    · exact c
    · have := (key b.tm).2 c
      rw [Int.sub_self, Int.mul_zero] at this
      omega
  · have h1 := h.t1
    have h2 := h.l0
    have h3 := mul_le_of (a := n) (b := b.den) (A := 1048576) (B := 1048576) (by
      rcases (by omega : n < 0 ∨ 0 ≤ n) with c | c
      · have := Int.mul_le_mul_of_nonneg_right (show n ≤ 0 by omega) (show 0 ≤ b.den by have := h.d0; omega)
        rw [Int.zero_mul] at this
        omega
      · exact c) n1 (by have := h.d0; omega) h.d1
    refine (key _).1 ?_
    have := Int.mul_le_mul_of_nonneg_right (show 1 ≤ b.num by omega) (show 0 ≤ 2199023255552 - b.tm by omega)
    rw [Int.one_mul] at this
    omega
/-- The time that is told is the first one at which there are tokens. -/
theorem Bk.Ok.ready {b : Bk} (h : b.Ok) {n : Int} (n0 : 0 ≤ n) (n1 : n ≤ 1048576) :
    (∃ r, b.ready n = (r, true, 0) ∧ b.tm ≤ r ∧ r ≤ 1099511627776 ∧ (∀ t, b.tm ≤ t → (b.can n t = true ↔ r ≤ t))) ∨
    (b.ready n = (0, false, 0) ∧ ∀ t, t ≤ 1099511627776 → b.tm ≤ t → b.can n t = false) := by
  have hn : btw n 0 1048576 = true := btw_true.2 ⟨n0, n1⟩
  have l1 := h.l1
  unfold Bk.ready
  rw [if_pos (Bk.right_iff.2 h), if_pos hn]
  by_cases c1 : n * b.den ≤ b.lev
  · rw [if_pos c1]
    refine .inl ⟨b.tm, rfl, Int.le_refl _, h.t1, fun t ht => ⟨fun _ => ht, fun _ => Bk.can_iff.2 ⟨?_, by omega⟩⟩⟩
    have := Int.mul_nonneg h.n0 (show 0 ≤ t - b.tm by omega)
    omega
  · rw [if_neg c1]
    by_cases c2 : b.burst < n
    · rw [if_pos c2]
      refine .inr ⟨rfl, fun t _ _ => ?_⟩
      rw [Bool.eq_false_iff]
      intro e
      have := (burst_le h).1 (Bk.can_iff.1 e).2
      omega
    · rw [if_neg c2]
      have cb := (burst_le h).2 (show n ≤ b.burst by omega)
      by_cases c3 : b.num = 0
      · rw [if_pos c3]
        refine .inr ⟨rfl, fun t _ _ => ?_⟩
        rw [Bool.eq_false_iff]
        intro e
        have := (Bk.can_iff.1 e).1
        rw [c3, Int.zero_mul] at this
        omega
      · rw [if_neg c3]
        obtain ⟨w1, w2, w3⟩ := h.wait n1 (by omega) c3
        by_cases c4 : 1099511627776 < b.wait n
        · rw [if_pos c4]
          refine .inr ⟨rfl, fun t ht _ => ?_⟩
          rw [Bool.eq_false_iff]
          intro e
          have := (w3 t).1 (Bk.can_iff.1 e).1
          omega
        · rw [if_neg c4]
          refine .inl ⟨_, rfl, by omega, by omega, fun t _ => ⟨fun e => (w3 t).1 (Bk.can_iff.1 e).1, fun e => Bk.can_iff.2 ⟨(w3 t).2 e, cb⟩⟩⟩
end Go.Proofs.Ytkcfhjbppnchoaa
