/- Plain arithmetic behind the division of two words by one: no Go in sight. -/
import Derived.Test.YtfopcipapphogaaLen
import Derived.Laws.Bits64b
import Derived.Laws.Externs
namespace Go.Proofs.Ytfopcipapphogaa

theorem wrap64_id (a : Int) (h0 : 0 ≤ a) (h1 : a < 18446744073709551616) : IntKind.u64.wrap a = a := by rw [IntKind.wrap_u64]; omega
theorem wrap64_mod (a : Int) : IntKind.u64.wrap a = a % 18446744073709551616 := IntKind.wrap_u64 a

/-- One digit of a quotient on its way: q is not too small, r is what is left at the first digit. -/
structure QInv (U d v1 v0 q r : Int) : Prop where
  q0 : 0 ≤ q
  q1 : q ≤ 4294967297
  r0 : 0 ≤ r
  r1 : r < 4294967296
  eq : q * v1 + r = U
  up : U * 4294967296 + d < q * v1 * 4294967296 + q * v0 + v1 * 4294967296 + v0
/-- The digit, exactly. -/
structure QDone (U d v1 v0 q : Int) : Prop where
  q0 : 0 ≤ q
  q1 : q < 4294967296
  lo : q * (v1 * 4294967296 + v0) ≤ U * 4294967296 + d
  up : U * 4294967296 + d < q * (v1 * 4294967296 + v0) + (v1 * 4294967296 + v0)
/-- The divisor's digits, the dividend's part. -/
structure QIn (U d v1 v0 : Int) : Prop where
  a0 : 2147483648 ≤ v1
  a1 : v1 < 4294967296
  b0 : 0 ≤ v0
  b1 : v0 < 4294967296
  d0 : 0 ≤ d
  d1 : d < 4294967296
  u0 : 0 ≤ U
  u1 : U < v1 * 4294967296 + v0

theorem q_split (q v1 v0 : Int) : q * (v1 * 4294967296 + v0) = q * v1 * 4294967296 + q * v0 := by
  rw [Int.mul_add, ← Int.mul_assoc]

theorem dec_mul (q v : Int) : (q - 1) * v = q * v - v := by rw [Int.sub_mul, Int.one_mul]

theorem qinv_start {U d v1 v0 : Int} (h : QIn U d v1 v0) : QInv U d v1 v0 (U / v1) (U % v1) := by
  obtain ⟨a0, a1, b0, b1, d0, d1, u0, u1⟩ := h
  have hm := Int.emod_nonneg U (show v1 ≠ 0 by omega)
  have hl := Int.emod_lt_of_pos U (show 0 < v1 by omega)
  have he : U / v1 * v1 + U % v1 = U := Int.ediv_mul_add_emod U v1
  have hq : 0 ≤ U / v1 := Int.ediv_nonneg u0 (by omega)
  have hz : 0 ≤ U / v1 * v0 := Int.mul_nonneg hq b0
  refine ⟨hq, ?_, hm, by omega, he, ?_⟩
  · have : U / v1 < 4294967298 := Int.ediv_lt_of_lt_mul (by omega) (by omega)
    omega
  · omega

theorem cond_big {U d v1 v0 q r : Int} (h : QIn U d v1 v0) (i : QInv U d v1 v0 q r) (c : 4294967296 ≤ q) : 4294967296 * r + d < q * v0 := by
  obtain ⟨a0, a1, b0, b1, d0, d1, u0, u1⟩ := h
  obtain ⟨q0, q1, r0, r1, eq, up⟩ := i
  have h1 := Int.mul_le_mul_of_nonneg_right c (show 0 ≤ v1 by omega)
  have h2 := Int.mul_le_mul_of_nonneg_right c b0
  omega

theorem qinv_bounds {U d v1 v0 q r : Int} (h : QIn U d v1 v0) (i : QInv U d v1 v0 q r) : 0 ≤ q * v0 ∧ q * v0 < 18446744073709551616 := by
  obtain ⟨a0, a1, b0, b1, d0, d1, u0, u1⟩ := h
  obtain ⟨q0, q1, r0, r1, eq, up⟩ := i
  have h1 := Int.mul_nonneg q0 b0
  have h2 := Int.mul_le_mul_of_nonneg_right q1 b0
  omega

theorem qinv_pos {U d v1 v0 q r : Int} (h : QIn U d v1 v0) (i : QInv U d v1 v0 q r) (c : 4294967296 * r + d < q * v0) : 1 ≤ q := by
  obtain ⟨a0, a1, b0, b1, d0, d1, u0, u1⟩ := h
  obtain ⟨q0, q1, r0, r1, eq, up⟩ := i
  rcases Int.lt_or_le 0 q with h | h
  · omega
  · have : q = 0 := by omega
    subst this
    simp at c
    omega

theorem qinv_next {U d v1 v0 q r : Int} (h : QIn U d v1 v0) (i : QInv U d v1 v0 q r) (c : 4294967296 * r + d < q * v0) (hr : r + v1 < 4294967296) : QInv U d v1 v0 (q - 1) (r + v1) := by
  have hp := qinv_pos h i c
  obtain ⟨a0, a1, b0, b1, d0, d1, u0, u1⟩ := h
  obtain ⟨q0, q1, r0, r1, eq, up⟩ := i
  refine ⟨by omega, by omega, by omega, hr, ?_, ?_⟩
  · rw [dec_mul]; omega
  · rw [dec_mul, dec_mul]; omega

theorem q_lt {U d v1 v0 q : Int} (h : QIn U d v1 v0) (hl : q * v1 * 4294967296 + q * v0 ≤ U * 4294967296 + d) : q < 4294967296 := by
  obtain ⟨a0, a1, b0, b1, d0, d1, u0, u1⟩ := h
  rcases Int.lt_or_le q 4294967296 with c | c
  · exact c
  · have h1 := Int.mul_le_mul_of_nonneg_right c (show 0 ≤ v1 by omega)
    have h2 := Int.mul_le_mul_of_nonneg_right c b0
    omega

theorem qdone_break {U d v1 v0 q r : Int} (h : QIn U d v1 v0) (i : QInv U d v1 v0 q r) (c : 4294967296 * r + d < q * v0) (hr : 4294967296 ≤ r + v1) : QDone U d v1 v0 (q - 1) := by
  have hp := qinv_pos h i c
  have h' := h
  obtain ⟨a0, a1, b0, b1, d0, d1, u0, u1⟩ := h
  obtain ⟨q0, q1, r0, r1, eq, up⟩ := i
  have hb := Int.mul_le_mul_of_nonneg_right (show q - 1 ≤ 4294967296 by omega) b0
  rw [dec_mul] at hb
  have hl : (q - 1) * v1 * 4294967296 + (q - 1) * v0 ≤ U * 4294967296 + d := by
    rw [dec_mul, dec_mul]
    omega
  refine ⟨by omega, q_lt h' hl, ?_, ?_⟩
  · rw [q_split]; exact hl
  · rw [q_split, dec_mul, dec_mul]; omega

theorem qdone_exit {U d v1 v0 q r : Int} (h : QIn U d v1 v0) (i : QInv U d v1 v0 q r) (c : q * v0 ≤ 4294967296 * r + d) : QDone U d v1 v0 q := by
  have h' := h
  obtain ⟨a0, a1, b0, b1, d0, d1, u0, u1⟩ := h
  obtain ⟨q0, q1, r0, r1, eq, up⟩ := i
  have hl : q * v1 * 4294967296 + q * v0 ≤ U * 4294967296 + d := by omega
  refine ⟨q0, q_lt h' hl, ?_, ?_⟩ <;> rw [q_split] <;> omega

/-- The first guess, as the words reckon it. -/
theorem guess {U d v1 v0 : Int} (h : QIn U d v1 v0) (hU : U < 18446744073709551616) :
    ∃ q r : Int, IntKind.u64.wrap (U.tdiv v1) = q ∧ IntKind.u64.wrap (U - IntKind.u64.wrap (q * v1)) = r ∧ QInv U d v1 v0 q r := by
  have i := qinv_start h
  obtain ⟨a0, a1, b0, b1, d0, d1, u0, u1⟩ := h
  have he : U / v1 * v1 + U % v1 = U := Int.ediv_mul_add_emod U v1
  have hn := Int.mul_nonneg i.q0 (show 0 ≤ v1 by omega)
  refine ⟨_, _, ?_, ?_, i⟩
  · rw [Int.tdiv_eq_ediv_of_nonneg u0, wrap64_id _ i.q0 (by have := i.q1; omega)]
  · have := i.r0
    rw [wrap64_id (U / v1 * v1) hn (by omega), wrap64_id _ (by omega) (by omega)]
    omega

/-- What is left behind a digit, as the words reckon it. -/
theorem rest_word {U d V q : Int} (h0 : q * V ≤ U * 4294967296 + d) (h1 : U * 4294967296 + d < q * V + V) (hV : V < 18446744073709551616) :
    IntKind.u64.wrap (IntKind.u64.wrap (IntKind.u64.wrap (U * 4294967296) + d) - IntKind.u64.wrap (q * V)) = U * 4294967296 + d - q * V := by
  rw [wrap64_mod, wrap64_mod, wrap64_mod, wrap64_mod]
  omega

/-- The numbers, shifted so that the divisor's highest bit stands at the top. -/
theorem norm (hi lo y s : Nat) (h : LzIs y s) (hlt : hi < y) (hlo : lo < 18446744073709551616) :
    ∃ Y v1 v0 U L l1 l0 : Int, IntKind.u64.wrap ((y : Int) * 2 ^ s) = Y ∧ Y / 4294967296 = v1 ∧ bits .and .u64 Y 4294967295 = v0 ∧
      bits .or .u64 (IntKind.u64.wrap ((hi : Int) * 2 ^ s)) ((lo : Int) / 2 ^ (64 - s)) = U ∧ IntKind.u64.wrap ((lo : Int) * 2 ^ s) = L ∧ L / 4294967296 = l1 ∧ bits .and .u64 L 4294967295 = l0 ∧
      Y = v1 * 4294967296 + v0 ∧ Y = (y : Int) * 2 ^ s ∧ Y < 18446744073709551616 ∧ QIn U l1 v1 v0 ∧ 0 ≤ l0 ∧ l0 < 4294967296 ∧
      U * 18446744073709551616 + l1 * 4294967296 + l0 = ((hi : Int) * 18446744073709551616 + lo) * 2 ^ s := by
  obtain ⟨s1, s2, s3⟩ := h
  have hp : 0 < 2 ^ s := Nat.two_pow_pos s
  have hpp : 2 ^ (64 - s) * 2 ^ s = 18446744073709551616 := by rw [← Nat.pow_add, show 64 - s + s = 64 from by omega]
  have hd : lo * 2 ^ s / 18446744073709551616 = lo / 2 ^ (64 - s) := by rw [← hpp]; exact Nat.mul_div_mul_right lo (2 ^ (64 - s)) hp
  have hdl : lo / 2 ^ (64 - s) < 2 ^ s := by
    rw [Nat.div_lt_iff_lt_mul (Nat.two_pow_pos _), Nat.mul_comm, hpp]; exact hlo
  have hhy : (hi + 1) * 2 ^ s ≤ y * 2 ^ s := Nat.mul_le_mul_right _ hlt
  rw [Nat.add_mul, Nat.one_mul] at hhy
  have hdm := Nat.div_add_mod (lo * 2 ^ s) 18446744073709551616
  have hmask : ∀ a : Nat, a < 18446744073709551616 → bits .and .u64 (a : Int) 4294967295 = ((a % 4294967296 : Nat) : Int) := by
    intro a ha
    have h := bits_and_u64_nat a 4294967295 ha (by omega)
    rw [show a &&& 4294967295 = a % 4294967296 from Nat.and_two_pow_sub_one_eq_mod a 32] at h
    exact h
  have ey : (y : Int) * 2 ^ s = ((y * 2 ^ s : Nat) : Int) := by push_cast; rfl
  have eh : (hi : Int) * 2 ^ s = ((hi * 2 ^ s : Nat) : Int) := by push_cast; rfl
  have el : (lo : Int) * 2 ^ s = ((lo * 2 ^ s : Nat) : Int) := by push_cast; rfl
  have eq : (lo : Int) / 2 ^ (64 - s) = ((lo / 2 ^ (64 - s) : Nat) : Int) := by push_cast; rfl
  have en : ((hi : Int) * 18446744073709551616 + lo) * 2 ^ s = ((hi * 2 ^ s * 18446744073709551616 + lo * 2 ^ s : Nat) : Int) := by
    rw [Int.add_mul, el, Int.mul_right_comm, eh]; omega
  have eor : hi * 2 ^ s ||| lo / 2 ^ (64 - s) = hi * 2 ^ s + lo / 2 ^ (64 - s) := by
    rw [Nat.mul_comm hi, Nat.two_pow_add_eq_or_of_lt hdl]
  have ewl : IntKind.u64.wrap ((lo * 2 ^ s : Nat) : Int) = ((lo * 2 ^ s % 18446744073709551616 : Nat) : Int) := by rw [wrap64_mod]; omega
  refine ⟨((y * 2 ^ s : Nat) : Int), ((y * 2 ^ s / 4294967296 : Nat) : Int), ((y * 2 ^ s % 4294967296 : Nat) : Int), ((hi * 2 ^ s + lo / 2 ^ (64 - s) : Nat) : Int), ((lo * 2 ^ s % 18446744073709551616 : Nat) : Int),
    ((lo * 2 ^ s % 18446744073709551616 / 4294967296 : Nat) : Int), ((lo * 2 ^ s % 18446744073709551616 % 4294967296 : Nat) : Int), ?_, ?_, ?_, ?_, ?_, ?_, ?_, ?_, ?_, ?_, ?_, ?_, ?_, ?_⟩
  · rw [ey, wrap64_id _ (by omega) (by omega)]
  · omega
  · exact hmask _ s3
  · rw [eh, eq, wrap64_id _ (by omega) (by omega), bits_or_u64_nat _ _ (by omega) (by omega), eor]
  · rw [el, ewl]
  · omega
  · exact hmask _ (by omega)
  · omega
  · rw [ey]
  · omega
  · exact ⟨by omega, by omega, by omega, by omega, by omega, by omega, by omega, by omega⟩
  · omega
  · omega
  · rw [en]
    omega

/-- The ways through a round. -/
theorem ways {U d v1 v0 q r : Int} (h : QIn U d v1 v0) (i : QInv U d v1 v0 q r) :
    (4294967296 ≤ q ∧ r + v1 < 4294967296 ∧ 1 ≤ q ∧ QInv U d v1 v0 (q - 1) (r + v1)) ∨
    (q < 4294967296 ∧ 4294967296 * r + d < q * v0 ∧ r + v1 < 4294967296 ∧ 1 ≤ q ∧ QInv U d v1 v0 (q - 1) (r + v1)) ∨
    (4294967296 ≤ q ∧ 4294967296 ≤ r + v1 ∧ 1 ≤ q ∧ QDone U d v1 v0 (q - 1)) ∨
    (q < 4294967296 ∧ 4294967296 * r + d < q * v0 ∧ 4294967296 ≤ r + v1 ∧ 1 ≤ q ∧ QDone U d v1 v0 (q - 1)) ∨
    (q < 4294967296 ∧ q * v0 ≤ 4294967296 * r + d ∧ 0 ≤ q ∧ QDone U d v1 v0 q) := by
  rcases Int.lt_or_le q 4294967296 with c1 | c1
  · rcases Int.lt_or_le (4294967296 * r + d) (q * v0) with c2 | c2
    · have hp := qinv_pos h i c2
      rcases Int.lt_or_le (r + v1) 4294967296 with c3 | c3
      · exact .inr (.inl ⟨c1, c2, c3, hp, qinv_next h i c2 c3⟩)
      · exact .inr (.inr (.inr (.inl ⟨c1, c2, c3, hp, qdone_break h i c2 c3⟩)))
    · exact .inr (.inr (.inr (.inr ⟨c1, c2, i.q0, qdone_exit h i c2⟩)))
  · have c2 := cond_big h i c1
    have hp := qinv_pos h i c2
    rcases Int.lt_or_le (r + v1) 4294967296 with c3 | c3
    · exact .inl ⟨c1, c3, hp, qinv_next h i c2 c3⟩
    · exact .inr (.inr (.inl ⟨c1, c3, hp, qdone_break h i c2 c3⟩))

/-- Behind the first digit. -/
theorem after1 {Y U l1 l0 v1 v0 q : Int} (h : QIn U l1 v1 v0) (D : QDone U l1 v1 v0 q) (hY : Y = v1 * 4294967296 + v0) (hl0 : 0 ≤ l0) (hl1 : l0 < 4294967296) (hb : Y < 18446744073709551616) :
    ∃ R q2 r2 : Int, IntKind.u64.wrap (IntKind.u64.wrap (IntKind.u64.wrap (U * 4294967296) + l1) - IntKind.u64.wrap (q * Y)) = R ∧ IntKind.u64.wrap (R.tdiv v1) = q2 ∧ IntKind.u64.wrap (R - IntKind.u64.wrap (q2 * v1)) = r2 ∧
      QIn R l0 v1 v0 ∧ QInv R l0 v1 v0 q2 r2 ∧ R = U * 4294967296 + l1 - q * Y := by
  obtain ⟨a0, a1, b0, b1, d0, d1, u0, u1⟩ := h
  obtain ⟨q0, q1, lo, up⟩ := D
  rw [← hY] at lo up
  have hin : QIn (U * 4294967296 + l1 - q * Y) l0 v1 v0 := ⟨a0, a1, b0, b1, hl0, hl1, by omega, by omega⟩
  obtain ⟨q2, r2, e1, e2, i⟩ := guess hin (by omega)
  exact ⟨_, q2, r2, rest_word lo up (by omega), e1, e2, hin, i, rfl⟩

/-- The two digits put together. -/
theorem div_end {Y U l1 l0 q1 q0 N y p : Int} (hp : 0 < p) (hy : 0 < y) (hY : Y = y * p) (hN : U * 18446744073709551616 + l1 * 4294967296 + l0 = N * p)
    (b : q0 * Y ≤ (U * 4294967296 + l1 - q1 * Y) * 4294967296 + l0) (c : (U * 4294967296 + l1 - q1 * Y) * 4294967296 + l0 < q0 * Y + Y) :
    N / y = q1 * 4294967296 + q0 ∧ N % y = ((U * 4294967296 + l1 - q1 * Y) * 4294967296 + l0 - q0 * Y) / p := by
  have e : N * p = (q1 * 4294967296 + q0) * Y + ((U * 4294967296 + l1 - q1 * Y) * 4294967296 + l0 - q0 * Y) := by
    rw [Int.add_mul, Int.mul_right_comm]
    omega
  have hR : 0 ≤ (U * 4294967296 + l1 - q1 * Y) * 4294967296 + l0 - q0 * Y ∧ (U * 4294967296 + l1 - q1 * Y) * 4294967296 + l0 - q0 * Y < y * p := by rw [← hY]; omega
  generalize (U * 4294967296 + l1 - q1 * Y) * 4294967296 + l0 - q0 * Y = R at *
  have d1 : N * p / (y * p) = q1 * 4294967296 + q0 := by
    rw [e, hY]
    rw [Int.add_comm, Int.add_mul_ediv_right _ _ (by have := Int.mul_pos hy hp; omega), Int.ediv_eq_zero_of_lt hR.1 hR.2, Int.zero_add]
  rw [Int.mul_ediv_mul_of_pos_left _ _ hp] at d1
  refine ⟨d1, ?_⟩
  have hm : N * p % (y * p) = R := by
    rw [e, hY, Int.add_comm, Int.add_mul_emod_self_right]
    exact Int.emod_eq_of_lt hR.1 hR.2
  rw [Int.mul_comm N, Int.mul_comm y, Int.mul_emod_mul_of_pos _ _ hp] at hm
  rw [← hm, Int.mul_ediv_cancel_left _ (by omega)]

/-- Behind the second digit: the results, as the words reckon them. -/
theorem after2 {Y U l1 l0 v1 v0 q1 q0 R : Int} {hi lo y s : Nat} (hy0 : 0 < y) (D0 : QDone R l0 v1 v0 q0) (hR : R = U * 4294967296 + l1 - q1 * Y) (hY : Y = v1 * 4294967296 + v0)
    (hb : Y < 18446744073709551616) (hYs : Y = (y : Int) * 2 ^ s) (hN : U * 18446744073709551616 + l1 * 4294967296 + l0 = ((hi : Int) * 18446744073709551616 + lo) * 2 ^ s) :
    q1 * 4294967296 + q0 = ((hi : Int) * 18446744073709551616 + lo) / y ∧
    IntKind.u64.wrap (IntKind.u64.wrap (IntKind.u64.wrap (R * 4294967296) + l0) - IntKind.u64.wrap (q0 * Y)) / 2 ^ s = ((hi : Int) * 18446744073709551616 + lo) % y := by
  obtain ⟨b0, b1, blo, bup⟩ := D0
  rw [← hY] at blo bup
  rw [rest_word blo bup hb]
  subst hR
  have hp : (0 : Int) < 2 ^ s := Int.pow_pos (by decide)
  obtain ⟨e1, e2⟩ := div_end (y := (y : Int)) (p := 2 ^ s) (N := (hi : Int) * 18446744073709551616 + lo) hp (by omega) hYs hN blo bup
  rw [e1, e2]
  exact ⟨rfl, rfl⟩

end Go.Proofs.Ytfopcipapphogaa
