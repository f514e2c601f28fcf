/- The division of digits: plain facts that its walk asks for. -/
import Derived.Test.YtfopcipapphogaaKnuth2
namespace Go.Proofs.Ytfopcipapphogaa
open Go.RowKit

theorem div_wrap {T y : Nat} (h : T < 18446744073709551616) : IntKind.u64.wrap ((T : Int) / (y : Int)) = ((T / y : Nat) : Int) := by
  have e : (T : Int) / (y : Int) = ((T / y : Nat) : Int) := by push_cast; rfl
  have l := Nat.div_le_self T y
  rw [e]
  generalize T / y = d at l ⊢
  rw [IntKind.wrap_u64]
  omega
theorem top_bit (n : Nat) : (((n : Nat) : Int) / 4294967296 != 0) = decide (4294967296 ≤ n) := by
  by_cases h : 4294967296 ≤ n
  · rw [decide_eq_true h, bne_iff_ne]; omega
  · rw [decide_eq_false h, bne_eq_false_iff_eq]; omega
theorem mul_wrap {q y : Nat} (hq : q < 4294967296) (hy : y < 4294967296) : IntKind.u64.wrap ((q : Int) * (y : Int)) = ((q * y : Nat) : Int) := by
  have m := Nat.mul_le_mul (show q ≤ 4294967295 by omega) (show y ≤ 4294967295 by omega)
  rw [IntKind.wrap_u64, show (q : Int) * (y : Int) = ((q * y : Nat) : Int) by push_cast; rfl]
  omega

theorem two_top (m : Nat) (g : Nat → Nat) : val (m + 2) g = (g (m + 1) * 4294967296 + g m) * 4294967296 ^ m + val m g := by
  simp only [val, Nat.pow_succ]
  rw [Nat.add_mul, Nat.mul_comm (4294967296 ^ m) 4294967296, Nat.mul_assoc]
  omega
theorem le_of_parts {T S P a b : Nat} (h : T * P + a < S * P + b) (hb : b < P) : T ≤ S := by
  refine Nat.le_of_lt_succ (Nat.lt_of_not_le fun g => ?_)
  have := Nat.mul_le_mul_right P g
  rw [Nat.succ_mul] at this
  omega
theorem gin_of {m j L : Nat} {U vf : Nat → Nat} (h11 : 2147483648 ≤ vf (m + 1)) (sv : Small (m + 3) vf) (su : Small L U) (hL : j + (m + 2) < L) (rest : val (m + 2) (from_ (j + 1) U) < val (m + 2) vf) :
    GIn (U (j + (m + 2)) * 4294967296 + U (j + (m + 1))) (U (j + m)) (vf (m + 1)) (vf m) := by
  refine ⟨h11, sv (m + 1) (by omega), sv m (by omega), su (j + m) (by omega), ?_⟩
  rw [two_top, two_top] at rest
  have lv := val_lt (sv.le (show m ≤ m + 3 by omega))
  simp only [from_] at rest
  rw [show j + 1 + (m + 1) = j + (m + 2) by omega, show j + 1 + m = j + (m + 1) by omega] at rest
  exact le_of_parts rest lv
theorem near_of {m j L : Nat} {U vf : Nat → Nat} {q : Nat} (h11 : 2147483648 ≤ vf (m + 1)) (sv : Small (m + 3) vf) (su : Small L U) (hL : j + (m + 2) < L) (rest : val (m + 2) (from_ (j + 1) U) < val (m + 2) vf)
    (D : GDone (U (j + (m + 2)) * 4294967296 + U (j + (m + 1))) (U (j + m)) (vf (m + 1)) (vf m) q) :
    val (m + 3) (from_ j U) < q * val (m + 2) vf + val (m + 2) vf ∧ q * val (m + 2) vf < val (m + 3) (from_ j U) + val (m + 2) vf := by
  have sw : Small m (from_ j U) := fun t ht => su (j + t) (by omega)
  refine guess_near (P := 4294967296 ^ m) (lw := val m (from_ j U)) (lv := val m vf) (gin_of h11 sv su hL rest) D ?_ (two_top m vf) (val_lt sw) (val_lt (sv.le (by omega))) ?_
  · rw [show m + 3 = (m + 2) + 1 by omega, val, two_top, Nat.pow_add]
    simp only [from_]
    generalize 4294967296 ^ m = P
    rw [show (4294967296 : Nat) ^ 2 = 4294967296 * 4294967296 by decide]
    simp only [Nat.add_mul]
    rw [Nat.mul_comm P (4294967296 * 4294967296), ← Nat.mul_assoc, ← Nat.mul_assoc]
    omega
  · rw [show m + 3 = 1 + (m + 2) by omega, val_from 1 (m + 2) (from_ j U)]
    have e : from_ 1 (from_ j U) = from_ (j + 1) U := by
      funext t
      simp only [from_]
      rw [Nat.add_assoc]
    have s0 : U j < 4294967296 := su j (by omega)
    rw [e]
    generalize val (m + 2) (from_ (j + 1) U) = Y at *
    generalize val (m + 2) vf = V at *
    simp only [val, from_, Nat.pow_zero, Nat.pow_one, Nat.add_zero, Nat.zero_add, Nat.mul_one]
    omega

theorem val_from_same {n j D : Nat} {U' : Nat → Nat} : val n (from_ j (fun t => if t = j + n then D else U' t)) = val n (from_ j U') := by
  refine val_congr fun t ht => ?_
  simp only [from_]
  rw [if_neg (by omega)]
theorem MS.pos {w wx : World} {bu bv bo mu mv L : Nat} {vf O U U' : Nat → Nat} {j Q n c b D : Nat} (I : MS w wx bu bv bo mu mv L vf O U U' j Q n c b) (sv : Small n vf) (hd : D + c + b = U (j + n) + 0 * 4294967296)
    (hw : val (n + 1) (from_ j U) < Q * val n vf + val n vf) : val (n + 1) (from_ j U) = Q * val n vf + val n (from_ j U') ∧ val n (from_ j U') < val n vf :=
  (ms_pos (un := U (j + n)) I.eq rfl (Nat.le_of_lt (val_lt sv)) hw (by omega)).2
theorem MS.q_pos {w wx : World} {bu bv bo mu mv L : Nat} {vf O U U' : Nat → Nat} {j Q n c b D : Nat} (I : MS w wx bu bv bo mu mv L vf O U U' j Q n c b) (hL : j + n ≤ L) (hD : D < 4294967296) (hd : D + c + b = U (j + n) + 1 * 4294967296) : 1 ≤ Q := by
  rcases Nat.eq_zero_or_pos Q with h | h
  · subst h
    have e := I.eq
    have l : val n (from_ j U') < 4294967296 ^ n := val_lt fun t ht => I.mem.su (j + t) (by omega)
    have m := Nat.mul_le_mul_right (4294967296 ^ n) (show 1 ≤ c + b by omega)
    rw [Nat.zero_mul] at e
    omega
  · exact h
theorem MS.neg {w wx wy : World} {bu bv bo mu mv L : Nat} {vf O U U' U1 U2 : Nat → Nat} {j Q n c b D c2 : Nat} (I : MS w wx bu bv bo mu mv L vf O U U' j Q n c b) (sv : Small n vf) (hL : j + n ≤ L) (hD : D < 4294967296) (hd : D + c + b = U (j + n) + 1 * 4294967296)
    (h2 : Q * val n vf < val (n + 1) (from_ j U) + val n vf) (h1 : val n (from_ j U1) = val n (from_ j U')) (A : AB w wy bu bv bo mu mv L vf O U1 U2 j n c2) :
    val (n + 1) (from_ j U) = (Q - 1) * val n vf + val n (from_ j U2) ∧ val n (from_ j U2) < val n vf := by
  have h3 := A.eq
  rw [h1] at h3
  exact (ms_neg (un := U (j + n)) I.eq rfl (Nat.le_of_lt (val_lt sv)) (val_lt fun t ht => I.mem.su (j + t) (by omega)) h2 (by omega) h3 (val_lt fun t ht => A.mem.su (j + t) (by omega))).2.2.2
theorem MMem.rebase {w wx : World} {bu bv bo mu mv L : Nat} {vf O U U1 U' : Nat → Nat} {j i : Nat} (I : MMem w wx bu bv bo mu mv L vf O U1 U' j i) (h1 : ∀ t, t < j → U1 t = U t) (h2 : ∀ t, j + i ≤ t → U1 t = U t) : MMem w wx bu bv bo mu mv L vf O U U' j i :=
  ⟨I.rv, I.ru, I.ro, I.su, I.below, fun t ht => (I.lo t ht).trans (h1 t ht), fun t ht => (I.hi t ht).trans (h2 t ht)⟩

/-! ### before the first round -/
/-- The divisor is moved up as far as it goes: it keeps its length, and its top digit is great. -/
theorem top_of {m k : Nat} {f vf : Nat → Nat} (hs : Small (m + 2) f) (sv : Small (m + 3) vf) (hk : k ≤ 31) (h0 : f (m + 1) * 2 ^ k < 4294967296) (h1 : 2147483648 ≤ f (m + 1) * 2 ^ k) (e : val (m + 3) vf = val (m + 2) f * 2 ^ k) :
    val (m + 2) vf = val (m + 2) f * 2 ^ k ∧ 2147483648 ≤ vf (m + 1) := by
  have hp : (4294967296 : Nat) ^ (m + 2) = 4294967296 * 4294967296 ^ (m + 1) := by rw [Nat.pow_succ, Nat.mul_comm]
  have lf : val (m + 1) f < 4294967296 ^ (m + 1) := val_lt (hs.le (by omega))
  have lv : val (m + 1) vf < 4294967296 ^ (m + 1) := val_lt (sv.le (by omega))
  have ev : val (m + 3) vf = val (m + 1) vf + vf (m + 1) * 4294967296 ^ (m + 1) + vf (m + 2) * 4294967296 ^ (m + 2) := rfl
  have ef : val (m + 2) f = val (m + 1) f + f (m + 1) * 4294967296 ^ (m + 1) := rfl
  have e3 : val (m + 2) vf = val (m + 1) vf + vf (m + 1) * 4294967296 ^ (m + 1) := rfl
  have pk : 2 ^ (32 - k) * 2 ^ k = 4294967296 := half_pow k (by omega)
  have hf1 : f (m + 1) + 1 ≤ 2 ^ (32 - k) := by
    refine Nat.lt_of_mul_lt_mul_right (a := 2 ^ k) ?_
    rw [pk]; exact h0
  have m1 := Nat.mul_le_mul_right (2 ^ k) hf1
  rw [pk, Nat.add_mul, Nat.one_mul] at m1
  have pos : 0 < (4294967296 : Nat) ^ (m + 1) := Nat.pow_pos (by decide)
  generalize (4294967296 : Nat) ^ (m + 1) = P at *
  have m2 := Nat.mul_le_mul_right P m1
  rw [Nat.add_mul] at m2
  have m3 := Nat.mul_le_mul_right P h1
  have lf2 : val (m + 1) f * 2 ^ k < P * 2 ^ k := Nat.mul_lt_mul_of_pos_right lf (Nat.two_pow_pos k)
  have e4 : val (m + 2) f * 2 ^ k = val (m + 1) f * 2 ^ k + f (m + 1) * 2 ^ k * P := by rw [ef, Nat.add_mul, Nat.mul_right_comm]
  rw [Nat.mul_comm P] at lf2
  have z : vf (m + 2) = 0 := by
    rcases Nat.eq_zero_or_pos (vf (m + 2)) with h | h
    · exact h
    · have := Nat.mul_le_mul_right (4294967296 ^ (m + 2)) h
      rw [hp] at this ev
      omega
  rw [z, Nat.zero_mul, Nat.add_zero] at ev
  refine ⟨by omega, ?_⟩
  have t1 : 2147483648 * P < (vf (m + 1) + 1) * P := by rw [Nat.add_mul, Nat.one_mul]; omega
  have := Nat.lt_of_mul_lt_mul_right t1
  omega
/-- The dividend's top is below the divisor. -/
theorem kinv_start {m nx k : Nat} {f uf vf : Nat → Nat} (hle : m + 2 ≤ nx) (hs : Small nx f) (su : Small (nx + 1) uf) (hk : k ≤ 31) (e : val (nx + 1) uf = val nx f * 2 ^ k) (h11 : 2147483648 ≤ vf (m + 1)) :
    KInv (val nx f * 2 ^ k) (val (m + 2) vf) (m + 2) (nx + 1) uf (fun _ => 0) (nx - m - 1) := by
  have z : ∀ L, val L (fun _ => 0) = 0 := fun L => by
    induction L with
    | zero => rfl
    | succ L ih => simp only [val, ih, Nat.zero_mul]
  refine ⟨?_, ?_, fun _ _ => rfl⟩
  · rw [z, Nat.zero_mul, Nat.zero_add, show nx - m - 1 + (m + 2) = nx + 1 by omega, e]
  · have l1 : val (m + 1) (from_ (nx - m - 1) uf) < 4294967296 ^ (m + 1) := val_lt fun t ht => su _ (by omega)
    have e1 : val (m + 2) (from_ (nx - m - 1) uf) = val (m + 1) (from_ (nx - m - 1) uf) + uf nx * 4294967296 ^ (m + 1) := by
      simp only [val, from_]
      rw [show nx - m - 1 + (m + 1) = nx by omega]
    have e2 : val (m + 2) vf = val (m + 1) vf + vf (m + 1) * 4294967296 ^ (m + 1) := rfl
    have e3 : val (nx + 1) uf = val nx uf + uf nx * 4294967296 ^ nx := rfl
    have lf := val_lt hs
    have p31 : 2 ^ k ≤ 2147483648 := Nat.pow_le_pow_right (by decide) hk
    have l2 : val nx f * 2 ^ k < 2147483648 * 4294967296 ^ nx := by
      have a := Nat.mul_lt_mul_of_pos_right lf (Nat.two_pow_pos k)
      have b := Nat.mul_le_mul_right (4294967296 ^ nx) p31
      rw [Nat.mul_comm] at b
      rw [Nat.mul_comm (4294967296 ^ nx)] at a
      rw [Nat.mul_comm (4294967296 ^ nx)] at b
      exact Nat.lt_of_lt_of_le a b
    have l3 : uf nx * 4294967296 ^ nx < 2147483648 * 4294967296 ^ nx := by omega
    have l4 := Nat.lt_of_mul_lt_mul_right l3
    have m1 := Nat.mul_le_mul_right (4294967296 ^ (m + 1)) (show uf nx + 1 ≤ vf (m + 1) by omega)
    rw [Nat.add_mul, Nat.one_mul] at m1
    omega
/-- Behind the last round. -/
theorem kinv_end {X V n L k : Nat} {U O : Nat → Nat} {y x : Nat} (I : KInv X V n L U O 0) (hX : X = x * 2 ^ k) (hV : V = y * 2 ^ k) : val L O = x / y ∧ val n U / 2 ^ k = x % y := by
  obtain ⟨h1, h2, _⟩ := I
  have e : from_ 0 U = U := by funext t; simp only [from_, Nat.zero_add]
  rw [e] at h2
  rw [Nat.zero_add] at h1
  have p := Nat.two_pow_pos k
  generalize val L O = q at *
  generalize val n U = r at *
  generalize 2 ^ k = P at *
  subst hX hV
  have hy : 0 < y := by
    rcases Nat.eq_zero_or_pos y with h | h
    · subst h; simp at h2
    · exact h
  rw [← Nat.mul_assoc] at h1
  have hle : q * y ≤ x := by
    refine Nat.le_of_mul_le_mul_right (c := P) ?_ p
    omega
  obtain ⟨t, rfl⟩ : ∃ t, x = q * y + t := ⟨x - q * y, by omega⟩
  rw [Nat.add_mul] at h1
  have hr : r = t * P := by omega
  subst hr
  have ht : t < y := Nat.lt_of_mul_lt_mul_right h2
  rw [Nat.mul_div_cancel _ p]
  constructor
  · rw [Nat.mul_comm q, Nat.mul_add_div hy, Nat.div_eq_of_lt ht, Nat.add_zero]
  · rw [Nat.mul_comm q, Nat.mul_add_mod, Nat.mod_eq_of_lt ht]
end Go.Proofs.Ytfopcipapphogaa
