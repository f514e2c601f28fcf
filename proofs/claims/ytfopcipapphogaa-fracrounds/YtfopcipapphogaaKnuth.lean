/- Plain arithmetic of the division of digits by digits, each digit of the quotient guessed by two of the divisor's: no Go in sight. -/
import Derived.Test.YtfopcipapphogaaBig10
namespace Go.Proofs.Ytfopcipapphogaa

/-- The guess of a digit: the top of the dividend T (two digits) and d, the divisor's two digits v1, v2. -/
structure GIn (T d v1 v2 : Nat) : Prop where
  a0 : 2147483648 ≤ v1
  a1 : v1 < 4294967296
  b1 : v2 < 4294967296
  d1 : d < 4294967296
  u1 : T ≤ v1 * 4294967296 + v2
structure GInv (T d v1 v2 q r : Nat) : Prop where
  q1 : q ≤ 4294967297
  r1 : r < 4294967296
  eq : q * v1 + r = T
  up : 4294967295 ≤ q ∨ T * 4294967296 + d < q * v1 * 4294967296 + q * v2 + v1 * 4294967296 + v2
/-- The guess when it is done. -/
structure GDone (T d v1 v2 q : Nat) : Prop where
  q1 : q < 4294967296
  lo : q * (v1 * 4294967296 + v2) ≤ T * 4294967296 + d
  up : q = 4294967295 ∨ T * 4294967296 + d < (q + 1) * (v1 * 4294967296 + v2)
theorem ginv_start {T d v1 v2 : Nat} (h : GIn T d v1 v2) : GInv T d v1 v2 (T / v1) (T % v1) := by
  obtain ⟨a0, a1, b1, d1, u1⟩ := h
  have hl := Nat.mod_lt T (show 0 < v1 by omega)
  have he := Nat.div_add_mod T v1
  rw [Nat.mul_comm] at he
  have hq : T / v1 < 4294967298 := by rw [Nat.div_lt_iff_lt_mul (by omega)]; omega
  exact ⟨by omega, by omega, he, .inr (by omega)⟩
theorem ginv_pos {d v2 q r : Nat} (c : 4294967296 ≤ q ∨ r * 4294967296 + d < q * v2) : 1 ≤ q := by
  rcases c with c | c
  · omega
  · rcases Nat.eq_zero_or_pos q with h | h
    · subst h; simp at c
    · exact h
theorem pred_mul (q v : Nat) (h : 1 ≤ q) : (q - 1) * v + v = q * v := by
  obtain ⟨p, rfl⟩ : ∃ p, q = p + 1 := ⟨q - 1, by omega⟩
  rw [Nat.add_sub_cancel, Nat.add_mul, Nat.one_mul]
theorem lin2 {T d x y r : Nat} (e : x + r = T) (c : r * 4294967296 + d < y) : T * 4294967296 + d < x * 4294967296 + y := by
  subst e
  rw [Nat.add_mul, Nat.add_assoc]
  exact Nat.add_lt_add_left c _
theorem lin1 {T d v1 v2 a b x y r : Nat} (e1 : a + v1 = x) (e2 : b + v2 = y) (e : x + r = T) (c : r * 4294967296 + d < y) : T * 4294967296 + d < a * 4294967296 + b + v1 * 4294967296 + v2 := by
  have h := lin2 e c
  have k : x * 4294967296 + y = a * 4294967296 + b + v1 * 4294967296 + v2 := by
    subst e1 e2
    rw [Nat.add_mul]
    ac_rfl
  exact Nat.lt_of_lt_of_eq h k
theorem ginv_next {T d v1 v2 q r : Nat} (i : GInv T d v1 v2 q r) (c : 4294967296 ≤ q ∨ r * 4294967296 + d < q * v2) (hr : r + v1 < 4294967296) : GInv T d v1 v2 (q - 1) (r + v1) := by
  have hp := ginv_pos c
  obtain ⟨q1, r1, eq, up⟩ := i
  have e1 := pred_mul q v1 hp
  have e2 := pred_mul q v2 hp
  refine ⟨by omega, hr, by omega, ?_⟩
  rcases c with c | c
  · exact Or.inl (Nat.le_sub_of_add_le c)
  · refine Or.inr ?_
    exact lin1 e1 e2 eq c
theorem gdone_break {T d v1 v2 q r : Nat} (h : GIn T d v1 v2) (i : GInv T d v1 v2 q r) (c : 4294967296 ≤ q ∨ r * 4294967296 + d < q * v2) (hr : 4294967296 ≤ r + v1) : GDone T d v1 v2 (q - 1) := by
  have hp := ginv_pos c
  obtain ⟨a0, a1, b1, d1, u1⟩ := h
  obtain ⟨q1, r1, eq, up⟩ := i
  have e1 := pred_mul q v1 hp
  have e2 := pred_mul q v2 hp
  have hq : q - 1 < 4294967296 := by
    rcases Nat.lt_or_ge (q - 1) 4294967296 with c | c
    · exact c
    · have := Nat.mul_le_mul_right v1 c
      omega
  have hb := Nat.mul_le_mul_right v2 (show q - 1 ≤ 4294967296 by omega)
  have es : (q - 1) * (v1 * 4294967296 + v2) = (q - 1) * v1 * 4294967296 + (q - 1) * v2 := by rw [Nat.mul_add, ← Nat.mul_assoc]
  have es2 : (q - 1 + 1) * (v1 * 4294967296 + v2) = q * v1 * 4294967296 + q * v2 := by rw [show q - 1 + 1 = q by omega, Nat.mul_add, ← Nat.mul_assoc]
  refine ⟨hq, by rw [es]; omega, ?_⟩
  rw [es2]
  rcases c with c | c
  · exact Or.inl (Nat.le_antisymm (Nat.le_of_lt_succ hq) (Nat.le_sub_of_add_le c))
  · refine Or.inr ?_
    exact lin2 eq c
theorem gdone_exit {T d v1 v2 q r : Nat} (i : GInv T d v1 v2 q r) (c1 : q < 4294967296) (c2 : q * v2 ≤ r * 4294967296 + d) : GDone T d v1 v2 q := by
  obtain ⟨q1, r1, eq, up⟩ := i
  have es : q * (v1 * 4294967296 + v2) = q * v1 * 4294967296 + q * v2 := by rw [Nat.mul_add, ← Nat.mul_assoc]
  have es2 : (q + 1) * (v1 * 4294967296 + v2) = q * v1 * 4294967296 + q * v2 + v1 * 4294967296 + v2 := by rw [Nat.add_mul, Nat.one_mul, es]; omega
  refine ⟨c1, by rw [es]; omega, ?_⟩
  rw [es2]
  rcases up with up | up
  · exact .inl (by omega)
  · exact .inr up

/-- The guess is the quotient's digit, or one more. -/
theorem guess_near {T d v1 v2 q P lw lv W V : Nat} (h : GIn T d v1 v2) (D : GDone T d v1 v2 q) (hW : W = (T * 4294967296 + d) * P + lw) (hV : V = (v1 * 4294967296 + v2) * P + lv) (hl : lw < P) (hv : lv < P) (hb : W < 4294967296 * V) :
    W < q * V + V ∧ q * V < W + V := by
  obtain ⟨a0, a1, b1, d1, u1⟩ := h
  obtain ⟨q1, lo, up⟩ := D
  constructor
  · rcases up with up | up
    · subst up; omega
    · have m := Nat.mul_le_mul_right P (show T * 4294967296 + d + 1 ≤ (q + 1) * (v1 * 4294967296 + v2) from up)
      have e : (q + 1) * V = (q + 1) * (v1 * 4294967296 + v2) * P + (q + 1) * lv := by rw [hV, Nat.mul_add, ← Nat.mul_assoc]
      have e2 : (q + 1) * V = q * V + V := by rw [Nat.add_mul, Nat.one_mul]
      rw [Nat.add_mul, Nat.one_mul] at m
      omega
  · have m := Nat.mul_le_mul_right P lo
    have e : q * V = q * (v1 * 4294967296 + v2) * P + q * lv := by rw [hV, Nat.mul_add, ← Nat.mul_assoc]
    have m2 := Nat.mul_le_mul q1 (Nat.le_of_lt hv)
    have m3 : 4294967296 * P ≤ (v1 * 4294967296 + v2) * P := Nat.mul_le_mul_right P (by omega)
    have m4 : q * lv ≤ 4294967295 * P := Nat.mul_le_mul (by omega) (Nat.le_of_lt hv)
    have hP : 0 < P := by omega
    omega

/-- A number's digits from k on. -/
def from_ (k : Nat) (f : Nat → Nat) : Nat → Nat := fun j => f (k + j)
theorem val_from (k m : Nat) (f : Nat → Nat) : val (k + m) f = val k f + val m (from_ k f) * 4294967296 ^ k := val_shift m k f

/-- A digit of 'less q times the divisor'. -/
theorem ms_step {P q vi ui c b c' b' D low X Y Z : Nat} (e : X + q * Y = Z + (c + b) * P) (ht : c + q * vi = low + c' * 4294967296) (hd : D + low + b = ui + b' * 4294967296) :
    X + D * P + q * (Y + vi * P) = Z + ui * P + (c' + b') * (P * 4294967296) := by
  have h1 := congrArg (· * P) ht
  have h2 := congrArg (· * P) hd
  simp only [Nat.add_mul] at h1 h2 e
  rw [Nat.mul_add, ← Nat.mul_assoc q, Nat.add_mul, Nat.mul_comm P, ← Nat.mul_assoc c', ← Nat.mul_assoc b']
  omega
/-- Behind the digits: the guess was right. -/
theorem ms_pos {P V q W X Z un c b : Nat} (e : X + q * V = Z + (c + b) * P) (hW : W = Z + un * P) (hV : V ≤ P) (h1 : W < q * V + V) (hle : c + b ≤ un) : un = c + b ∧ W = q * V + X ∧ X < V := by
  obtain ⟨t, rfl⟩ : ∃ t, un = c + b + t := ⟨un - (c + b), by omega⟩
  rw [Nat.add_mul] at hW
  rcases Nat.eq_zero_or_pos t with h0 | h0
  · subst h0
    simp at hW
    refine ⟨rfl, by omega, by omega⟩
  · have := Nat.mul_le_mul_right P h0
    omega
/-- Behind the digits: it was one too much, and the divisor is added back. -/
theorem ms_neg {P V q W X Z un c b Y c2 : Nat} (e : X + q * V = Z + (c + b) * P) (hW : W = Z + un * P) (hV : V ≤ P) (hX : X < P) (h2 : q * V < W + V) (hlt : un < c + b) (h3 : Y + c2 * P = X + V) (hY : Y < P) :
    c + b = un + 1 ∧ 1 ≤ q ∧ c2 = 1 ∧ W = (q - 1) * V + Y ∧ Y < V := by
  obtain ⟨t, ht⟩ : ∃ t, c + b = un + 1 + t := ⟨c + b - (un + 1), by omega⟩
  rw [ht, Nat.add_mul, Nat.add_mul, Nat.one_mul] at e
  have h0 : t = 0 := by
    rcases Nat.eq_zero_or_pos t with h | h
    · exact h
    · have := Nat.mul_le_mul_right P h
      omega
  subst h0
  simp at e
  have hq : 1 ≤ q := by
    rcases Nat.eq_zero_or_pos q with h | h
    · subst h; simp at e; omega
    · exact h
  have ep := pred_mul q V hq
  have hc2 : c2 = 1 := by
    rcases Nat.lt_or_ge c2 2 with h | h
    · rcases Nat.eq_zero_or_pos c2 with h' | h'
      · subst h'; simp at h3; omega
      · omega
    · have := Nat.mul_le_mul_right P h
      omega
  subst hc2
  rw [Nat.one_mul] at h3
  exact ⟨by omega, hq, rfl, by omega, by omega⟩

/-- The whole quotient on its way: what is left of the dividend, below position k. -/
structure KInv (X V n L : Nat) (U O : Nat → Nat) (k : Nat) : Prop where
  whole : X = val L O * V + val (k + n) U
  rest : val n (from_ k U) < V
  zero : ∀ j, j < k → O j = 0
theorem val_put_in {L k q : Nat} {O : Nat → Nat} (hk : k < L) (h0 : O k = 0) : val L (fun j => if j = k then q else O j) = val L O + q * 4294967296 ^ k := by
  induction L with
  | zero => omega
  | succ L ih =>
    simp only [val]
    rcases Nat.eq_or_lt_of_le (Nat.le_of_lt_succ hk) with h | h
    · subst h
      rw [val_put, if_pos rfl, h0]
      omega
    · rw [ih h, if_neg (by omega)]
      omega
/-- One digit more: the window from k on (n + 1 digits) is q times the divisor and the rest R. -/
theorem KInv.next {X V n L k q : Nat} {U U' O : Nat → Nat} (I : KInv X V n L U O (k + 1)) (hk : k < L) (hw : val (n + 1) (from_ k U) = q * V + val n (from_ k U')) (hr : val n (from_ k U') < V) (hsame : ∀ j, j < k → U' j = U j) :
    KInv X V n L U' (fun j => if j = k then q else O j) k := by
  obtain ⟨h1, h2, h3⟩ := I
  refine ⟨?_, hr, fun j hj => by rw [if_neg (by omega)]; exact h3 j (by omega)⟩
  rw [val_put_in hk (h3 k (by omega)), h1, show k + 1 + n = k + (n + 1) by omega, val_from k (n + 1) U, val_from k n U', hw, val_congr (f := U') (g := U) hsame, Nat.add_mul, Nat.add_mul, Nat.mul_right_comm q]
  omega
end Go.Proofs.Ytfopcipapphogaa
