/- WideGcd of package weirhousekeep: its walk. -/
import Derived.Test.YtopjhemahokmeaaAlive
namespace Go.Proofs.Ytopjhemahokmeaa
open Go.RowKit

namespace Gcd
theorem comm (a b : Int) : gI b a = gI a b := by unfold gI; rw [Nat.gcd_comm]
theorem zero_left {b : Int} (h : 0 ≤ b) : gI 0 b = b := by unfold gI; simp; omega
theorem zero_right {a : Int} (h : 0 ≤ a) : gI a 0 = a := by unfold gI; simp; omega
theorem dvd_left {a b : Int} (ha : 0 ≤ a) : gI a b ∣ a := by
  unfold gI
  have h := Int.natCast_dvd_natCast.2 (Nat.gcd_dvd_left a.toNat b.toNat)
  rwa [Int.toNat_of_nonneg ha] at h
theorem dvd_right {a b : Int} (hb : 0 ≤ b) : gI a b ∣ b := by
  unfold gI
  have h := Int.natCast_dvd_natCast.2 (Nat.gcd_dvd_right a.toNat b.toNat)
  rwa [Int.toNat_of_nonneg hb] at h
theorem mod_left {a b : Int} (ha : 0 ≤ a) : a % gI a b = 0 := Int.emod_eq_zero_of_dvd (dvd_left ha)
theorem mod_right {a b : Int} (hb : 0 ≤ b) : b % gI a b = 0 := Int.emod_eq_zero_of_dvd (dvd_right hb)
theorem mod_common {a b d : Int} (ha : 0 ≤ a) (hb : 0 ≤ b) (hd : 0 ≤ d) (h1 : a % d = 0) (h2 : b % d = 0) : gI a b % d = 0 := by
  obtain ⟨a, rfl⟩ := Int.eq_ofNat_of_zero_le ha
  obtain ⟨b, rfl⟩ := Int.eq_ofNat_of_zero_le hb
  obtain ⟨d, rfl⟩ := Int.eq_ofNat_of_zero_le hd
  apply Int.emod_eq_zero_of_dvd
  unfold gI
  exact Int.natCast_dvd_natCast.2 (Nat.dvd_gcd (by simpa using Int.natCast_dvd_natCast.1 (Int.dvd_of_emod_eq_zero h1)) (by simpa using Int.natCast_dvd_natCast.1 (Int.dvd_of_emod_eq_zero h2)))
/-- Quotient and rest of two words by one, of their number. -/
theorem div_val {h l b : Int} (hl : Word l) (h0 : 0 < b) : (h * 18446744073709551616 + l) / b = h / b * 18446744073709551616 + qL h l b ∧ (h * 18446744073709551616 + l) % b = qR h l b ∧ 0 ≤ qL h l b ∧ qL h l b < 18446744073709551616 := by
  have e1 := Int.ediv_mul_add_emod h b
  have e2 := Int.ediv_mul_add_emod (h % b * 18446744073709551616 + l) b
  have m0 := Int.emod_nonneg h (show b ≠ 0 by omega)
  have m1 := Int.emod_lt_of_pos h h0
  have r0 := Int.emod_nonneg (h % b * 18446744073709551616 + l) (show b ≠ 0 by omega)
  have r1 := Int.emod_lt_of_pos (h % b * 18446744073709551616 + l) h0
  obtain ⟨_, _⟩ := hl
  have e : h * 18446744073709551616 + l = qR h l b + (h / b * 18446744073709551616 + qL h l b) * b := by
    unfold qR qL
    rw [Int.add_mul, Int.mul_right_comm]
    omega
  refine ⟨?_, ?_, ?_, ?_⟩
  · rw [e, Int.add_mul_ediv_right _ _ (by omega), Int.ediv_eq_zero_of_lt (show 0 ≤ qR h l b from r0) (show qR h l b < b from r1), Int.zero_add]
  · rw [e, Int.add_mul_emod_self_right]
    exact Int.emod_eq_of_lt r0 r1
  · unfold qL; exact Int.ediv_nonneg (by omega) (by omega)
  · unfold qL; exact Int.ediv_lt_of_lt_mul h0 (by omega)
theorem div_word {x b : Int} (hx : Word x) (hb : Word b) : Word (x * b / 18446744073709551616) := by
  obtain ⟨x0, x1⟩ := hx; obtain ⟨b0, b1⟩ := hb
  have h1 := Int.mul_nonneg x0 b0
  have h2 := Int.mul_le_mul (show x ≤ 18446744073709551615 by omega) (show b ≤ 18446744073709551615 by omega) b0 (by omega)
  exact ⟨by omega, by omega⟩
theorem val (P : Int) : P / 18446744073709551616 * 18446744073709551616 + P % 18446744073709551616 = P := by omega
theorem lP_left {a b : Int} (hb : 0 ≤ b) (ha : 0 < a) : lP a b % a = 0 := by
  apply Int.emod_eq_zero_of_dvd
  unfold lP
  obtain ⟨k, hk⟩ := dvd_left (a := a) (b := b) (by omega)
  obtain ⟨j, hj⟩ := dvd_right (a := a) hb
  have hg := gI_pos (a := a) (b := b) (.inl ha)
  generalize gI a b = g at *
  subst hk
  rw [Int.mul_ediv_cancel_left _ (by omega)]
  exact ⟨j, by rw [hj, Int.mul_left_comm, Int.mul_assoc]⟩
theorem lP_right {a b : Int} : lP a b % b = 0 := by
  apply Int.emod_eq_zero_of_dvd
  exact ⟨a / gI a b, by unfold lP; rw [Int.mul_comm]⟩
theorem lP_eq {a b : Int} (ha : 0 ≤ a) : a * b / gI a b = lP a b := by
  unfold lP
  rw [Int.mul_comm a b, Int.mul_ediv_assoc _ (dvd_left ha), Int.mul_comm]
theorem prod_mod {a b : Int} (ha : 0 ≤ a) : a * b % gI a b = 0 :=
  Int.emod_eq_zero_of_dvd (Int.dvd_mul_of_dvd_left (dvd_left ha))
theorem final {a b : Int} (ha : Word a) (hb : Word b) (h1 : 0 < a) (h2 : 0 < b) :
    qR (lP a b / 18446744073709551616) (lP a b % 18446744073709551616) a = 0 ∧ qR (lP a b / 18446744073709551616) (lP a b % 18446744073709551616) b = 0 ∧ qR (a * b / 18446744073709551616) (a * b % 18446744073709551616) (gI a b) = 0 ∧
    a * b / 18446744073709551616 / gI a b = lP a b / 18446744073709551616 ∧ qL (a * b / 18446744073709551616) (a * b % 18446744073709551616) (gI a b) = lP a b % 18446744073709551616 := by
  have hg := gI_pos (a := a) (b := b) (.inl h1)
  obtain ⟨_, r1, _, _⟩ := div_val (h := lP a b / 18446744073709551616) (l := lP a b % 18446744073709551616) (b := a) (word_mod _) h1
  obtain ⟨_, r2, _, _⟩ := div_val (h := lP a b / 18446744073709551616) (l := lP a b % 18446744073709551616) (b := b) (word_mod _) h2
  obtain ⟨q3, r3, n0, n1⟩ := div_val (h := a * b / 18446744073709551616) (l := a * b % 18446744073709551616) (b := gI a b) (word_mod _) hg
  rw [val] at r1 r2 r3 q3
  rw [lP_eq ha.1] at q3
  refine ⟨by rw [← r1]; exact lP_left hb.1 h1, by rw [← r2]; exact lP_right, by rw [← r3]; exact prod_mod ha.1, ?_, ?_⟩ <;> omega
theorem dcase {a b d : Int} (ha : 0 ≤ a) (hb : 0 ≤ b) (hd : 0 ≤ d) :
    d = 0 ∨ (0 < d ∧ (a % d == 0) = false) ∨ (0 < d ∧ (a % d == 0) = true ∧ (b % d == 0) = false) ∨ (0 < d ∧ (a % d == 0) = true ∧ (b % d == 0) = true ∧ (gI a b % d != 0) = false) := by
  by_cases h : d = 0
  · exact .inl h
  cases h1 : (a % d == 0)
  · exact .inr (.inl ⟨by omega, rfl⟩)
  cases h2 : (b % d == 0)
  · exact .inr (.inr (.inl ⟨by omega, rfl, rfl⟩))
  · refine .inr (.inr (.inr ⟨by omega, rfl, rfl, ?_⟩))
    rw [mod_common ha hb hd (by simpa using h1) (by simpa using h2)]
    rfl
end Gcd

set_option maxRecDepth 100000 in
theorem gcd_both_zero (d : Int) (w : World) :
    Calls Try.prog 7 #[.int .u64 0, .int .u64 0, .int .u64 d] w fun e w' => e = .returned (.bool true) ∧ Below w.heap.size w w' := by
  have hg : gI 0 0 = 0 := by decide
  go_enter Try.func7, Try.ntmps7
  go_wp2_with fail
  refine (alive1 _).mono ?_
  rintro e w1 ⟨rfl, hb1⟩
  go_wp2_with fail
  refine (gcd_any 0 0 ⟨by decide, by decide⟩ ⟨by decide, by decide⟩ _).mono ?_
  rintro e w2 ⟨rfl, n, rfl⟩
  go_wp2
  go_ret
  exact ⟨rfl, below_drewN hb1 n⟩

set_option maxRecDepth 100000 in
set_option maxHeartbeats 2000000 in
theorem gcd_left_zero (b d : Int) (hb : Word b) (hd : Word d) (h0 : 0 < b) (w : World) :
    Calls Try.prog 7 #[.int .u64 0, .int .u64 b, .int .u64 d] w fun e w' => e = .returned (.bool true) ∧ Below w.heap.size w w' := by
  have hg : gI 0 b = b := Gcd.zero_left hb.1
  have hg' : gI b 0 = b := Gcd.zero_right hb.1
  have t1 : (b == 0) = false := by simp; omega
  have t2 : b % b = 0 := Int.emod_self
  have t3 : max 0 b = b := by omega
  have hl : lP 0 b = 0 := lP_zero (.inl rfl)
  have b1 := hb.2
  have d0 := hd.1
  have d1 := hd.2
  have hc : d = 0 ∨ (0 < d ∧ (b % d == 0) = false) ∨ (0 < d ∧ (b % d == 0) = true ∧ (b % d != 0) = false) := by
    by_cases h : d = 0
    · exact .inl h
    · cases h1 : (b % d == 0)
      · exact .inr (.inl ⟨by omega, rfl⟩)
      · exact .inr (.inr ⟨by omega, rfl, by simpa using h1⟩)
  have hn : d ≠ 0 → (0 % d == 0) = true := fun _ => by simp
  rcases hc with rfl | ⟨c0, c1⟩ | ⟨c0, c1, c2⟩
  all_goals
    go_enter Try.func7, Try.ntmps7
    go_wp2_with fail
    refine (alive1 _).mono ?_
    rintro e w1 ⟨rfl, hb1⟩
    go_wp2_with fail
    refine (gcd_any 0 b ⟨by decide, by decide⟩ hb _).mono ?_
    rintro e w2 ⟨rfl, n, rfl⟩
    go_wp2_with fail
    refine (gcd_any b 0 hb ⟨by decide, by decide⟩ _).mono ?_
    rintro e w2 ⟨rfl, m, rfl⟩
    go_wp2_with fail
    refine (lcm_any 0 b ⟨by decide, by decide⟩ hb _).mono ?_
    rintro e w2 ⟨rfl, hb2⟩
    go_wp2
    go_ret
    exact ⟨rfl, below_of (below_drewN hb1 _) hb2 hb1.size⟩

set_option maxRecDepth 100000 in
set_option maxHeartbeats 2000000 in
theorem gcd_right_zero (b d : Int) (hb : Word b) (hd : Word d) (h0 : 0 < b) (w : World) :
    Calls Try.prog 7 #[.int .u64 b, .int .u64 0, .int .u64 d] w fun e w' => e = .returned (.bool true) ∧ Below w.heap.size w w' := by
  have hg : gI 0 b = b := Gcd.zero_left hb.1
  have hg' : gI b 0 = b := Gcd.zero_right hb.1
  have t1 : (b == 0) = false := by simp; omega
  have t2 : b % b = 0 := Int.emod_self
  have t3 : max b 0 = b := by omega
  have hl : lP b 0 = 0 := lP_zero (.inr rfl)
  have b1 := hb.2
  have d0 := hd.1
  have d1 := hd.2
  have hc : d = 0 ∨ (0 < d ∧ (b % d == 0) = false) ∨ (0 < d ∧ (b % d == 0) = true ∧ (b % d != 0) = false) := by
    by_cases h : d = 0
    · exact .inl h
    · cases h1 : (b % d == 0)
      · exact .inr (.inl ⟨by omega, rfl⟩)
      · exact .inr (.inr ⟨by omega, rfl, by simpa using h1⟩)
  have hn : d ≠ 0 → (0 % d == 0) = true := fun _ => by simp
  rcases hc with rfl | ⟨c0, c1⟩ | ⟨c0, c1, c2⟩
  all_goals
    go_enter Try.func7, Try.ntmps7
    go_wp2_with fail
    refine (alive1 _).mono ?_
    rintro e w1 ⟨rfl, hb1⟩
    go_wp2_with fail
    refine (gcd_any b 0 hb ⟨by decide, by decide⟩ _).mono ?_
    rintro e w2 ⟨rfl, n, rfl⟩
    go_wp2_with fail
    refine (gcd_any 0 b ⟨by decide, by decide⟩ hb _).mono ?_
    rintro e w2 ⟨rfl, m, rfl⟩
    go_wp2_with fail
    refine (lcm_any b 0 hb ⟨by decide, by decide⟩ _).mono ?_
    rintro e w2 ⟨rfl, hb2⟩
    go_wp2
    go_ret
    exact ⟨rfl, below_of (below_drewN hb1 _) hb2 hb1.size⟩

set_option maxRecDepth 100000 in
set_option maxHeartbeats 4000000 in
theorem gcd_both (a b d : Int) (ha : Word a) (hb : Word b) (hd : Word d) (h1 : 0 < a) (h2 : 0 < b) (w : World) :
    Calls Try.prog 7 #[.int .u64 a, .int .u64 b, .int .u64 d] w fun e w' => e = .returned (.bool true) ∧ Below w.heap.size w w' := by
  have hg := gI_pos (a := a) (b := b) (.inl h1)
  have gw := gI_word ha hb
  have g1 := gw.2
  have t1 : (a == 0) = false := by simp; omega
  have t2 : (b == 0) = false := by simp; omega
  have t3 : (gI a b == 0) = false := by simp; omega
  have t4 := Gcd.mod_left (b := b) ha.1
  have t5 := Gcd.mod_right (a := a) hb.1
  have t6 := Gcd.comm a b
  have lw : Word (lP a b / 18446744073709551616) := Gcd.div_word (quot_word ha hg) hb
  have pw : Word (a * b / 18446744073709551616) := Gcd.div_word ha hb
  have lm : Word (lP a b % 18446744073709551616) := word_mod _
  have pm : Word (a * b % 18446744073709551616) := word_mod _
  have a1 := ha.2
  have b1 := hb.2
  have d0 := hd.1
  have d1 := hd.2
  rcases Gcd.dcase ha.1 hb.1 hd.1 with rfl | ⟨c0, c1⟩ | ⟨c0, c1, c2⟩ | ⟨c0, c1, c2, c3⟩
  all_goals
    go_enter Try.func7, Try.ntmps7
    go_wp2_with fail
    refine (alive1 _).mono ?_
    rintro e w1 ⟨rfl, hb1⟩
    go_wp2_with fail
    refine (gcd_any a b ha hb _).mono ?_
    rintro e w2 ⟨rfl, n, rfl⟩
    go_wp2_with fail
    refine (gcd_any b a hb ha _).mono ?_
    rintro e w2 ⟨rfl, m, rfl⟩
    go_wp2_with fail
    refine (lcm_any a b ha hb _).mono ?_
    rintro e w2 ⟨rfl, hb2⟩
    have B := below_of (below_drewN hb1 _) hb2 hb1.size
    have Pl := At.new w2 (lP a b / 18446744073709551616) (lP a b % 18446744073709551616)
    have s2 := B.size
    go_wp2_with fail
    refine (div_any _ _ a lw lm ha h1 _).mono ?_
    rintro e w3 ⟨rfl, hb3⟩
    replace B := below_of (B.alloc s2 _) hb3 (by simp; omega)
    replace Pl := Pl.below hb3
    obtain ⟨pl, ql, rl, fl, gl⟩ := id Pl
    have s3 := B.size
    go_wp2_with fail
    refine (div_any _ _ b lw lm hb h2 _).mono ?_
    rintro e w4 ⟨rfl, hb4⟩
    replace B := below_of (B.alloc s3 _) hb4 (by simp; omega)
    replace Pl := (Pl.alloc _).below hb4
    obtain ⟨pl, ql, rl, fl, gl⟩ := id Pl
    have s4 := B.size
    go_wp2_with fail
    refine (mul_any a b ha hb _).mono ?_
    rintro e w5 ⟨rfl, hb5⟩
    replace B := below_of (B.alloc s4 _) hb5 (by simp; omega)
    replace Pl := (Pl.alloc _).below hb5
    obtain ⟨pl, ql, rl, fl, gl⟩ := id Pl
    have s5 := B.size
    go_wp2_with fail
    refine (div_any _ _ (gI a b) pw pm gw hg _).mono ?_
    rintro e w6 ⟨rfl, hb6⟩
    replace B := below_of B hb6 s5
    replace Pl := Pl.below hb6
    obtain ⟨pl, ql, rl, fl, gl⟩ := id Pl
    have s6 := B.size
    obtain ⟨f1, f2, f3, f4, f5⟩ := Gcd.final ha hb h1 h2
    go_wp2
    go_ret
    exact ⟨rfl, B.alloc s6 _⟩
theorem gcd_all (a b d : Int) (ha : Word a) (hb : Word b) (hd : Word d) (w : World) :
    Calls Try.prog 7 #[.int .u64 a, .int .u64 b, .int .u64 d] w fun e w' => e = .returned (.bool true) ∧ Below w.heap.size w w' := by
  have a0 := ha.1
  have b0 := hb.1
  by_cases h1 : a = 0
  · subst h1
    by_cases h2 : b = 0
    · subst h2
      exact gcd_both_zero d w
    · exact gcd_left_zero b d hb hd (by omega) w
  · by_cases h2 : b = 0
    · subst h2
      exact gcd_right_zero a d ha hd (by omega) w
    · exact gcd_both a b d ha hb hd (by omega) (by omega) w
end Go.Proofs.Ytopjhemahokmeaa
