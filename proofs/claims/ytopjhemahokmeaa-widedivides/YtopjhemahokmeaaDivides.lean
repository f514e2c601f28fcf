/- WideDivides of package weirhousekeep: its walk. -/
import Derived.Test.YtopjhemahokmeaaAlive
namespace Go.Proofs.Ytopjhemahokmeaa
open Go.RowKit

namespace Divides
theorem sH_word (a b c d : Int) : Word (sH a b c d) := word_mod _
theorem sL_word (a b : Int) : Word (sL a b) := word_mod _
theorem rest_less (ah al : Int) {b : Int} (h0 : 0 < b) : qR ah al b < b := by unfold qR; exact Int.emod_lt_of_pos _ h0
theorem rest_word (b : Int) (hb : Word b) (h0 : 0 < b) (ah al : Int) : Word (qR ah al b) :=
  ⟨by unfold qR; exact Int.emod_nonneg _ (by omega), Int.lt_trans (rest_less ah al h0) hb.2⟩
theorem part {ah : Int} (b : Int) (a1 : Word ah) (h0 : 0 < b) : 0 ≤ ah / b * b ∧ ah / b * b ≤ ah := by
  have h := Int.ediv_mul_add_emod ah b
  have h1 := Int.emod_nonneg ah (show b ≠ 0 by omega)
  exact ⟨Int.mul_nonneg (Int.ediv_nonneg a1.1 (by omega)) (by omega), by omega⟩
theorem hi_zero {ah : Int} (b : Int) (a1 : Word ah) (h0 : 0 < b) : ah / b * b / 18446744073709551616 = 0 := by
  obtain ⟨h1, h2⟩ := part b a1 h0
  have := a1.2
  omega
theorem div_word {x b : Int} (hx : Word x) (hb : Word b) : Word (x * b / 18446744073709551616) := by
  obtain ⟨x0, x1⟩ := hx; obtain ⟨b0, b1⟩ := hb
  have h1 := Int.mul_nonneg x0 b0
  have h2 := Int.mul_le_mul (show x ≤ 18446744073709551615 by omega) (show b ≤ 18446744073709551615 by omega) b0 (by omega)
  exact ⟨by omega, by omega⟩
theorem quo_word {ah al b : Int} (a2 : Word al) (h0 : 0 < b) : Word (qL ah al b) := by
  have m0 := Int.emod_nonneg ah (show b ≠ 0 by omega)
  have m1 := Int.emod_lt_of_pos ah h0
  obtain ⟨_, _⟩ := a2
  unfold qL
  refine ⟨Int.ediv_nonneg (by omega) (by omega), Int.ediv_lt_of_lt_mul h0 ?_⟩
  omega
theorem sums {ah al b : Int} (a2 : Word al) (h0 : 0 < b) : ∃ m : Int, 0 ≤ m ∧ ah = ah / b * b + m ∧ m * 18446744073709551616 + al = qL ah al b * b + qR ah al b ∧ 0 ≤ qL ah al b * b ∧ 0 ≤ qR ah al b := by
  have m0 := Int.emod_nonneg ah (show b ≠ 0 by omega)
  obtain ⟨_, _⟩ := a2
  refine ⟨ah % b, m0, (Int.ediv_mul_add_emod ah b).symm, (Int.ediv_mul_add_emod _ b).symm, Int.mul_nonneg (Int.ediv_nonneg (by omega) (by omega)) (by omega), Int.emod_nonneg _ (by omega)⟩
theorem all {ah al b : Int} (a1 : Word ah) (a2 : Word al) (hb : Word b) (h0 : 0 < b) :
    (sH (sH (qL ah al b * b / 18446744073709551616) (qL ah al b * b % 18446744073709551616) (ah / b * b % 18446744073709551616) 0) (sL (qL ah al b * b % 18446744073709551616) 0) 0 (qR ah al b)) = ah ∧ (sL (sL (qL ah al b * b % 18446744073709551616) 0) (qR ah al b)) = al ∧
    sC (qL ah al b * b / 18446744073709551616) (qL ah al b * b % 18446744073709551616) (ah / b * b % 18446744073709551616) 0 = false ∧ sC (sH (qL ah al b * b / 18446744073709551616) (qL ah al b * b % 18446744073709551616) (ah / b * b % 18446744073709551616) 0) (sL (qL ah al b * b % 18446744073709551616) 0) 0 (qR ah al b) = false := by
  obtain ⟨m, m0, e1, e2, p0, r0⟩ := sums (ah := ah) a2 h0
  have r1 := rest_less ah al h0
  obtain ⟨k0, k1⟩ := part b a1 h0
  generalize qL ah al b * b = X at *
  generalize ah / b * b = Y at *
  generalize qR ah al b = R at *
  obtain ⟨_, _⟩ := a1; obtain ⟨_, _⟩ := a2; obtain ⟨_, _⟩ := hb
  unfold sH sL sC
  refine ⟨?_, ?_, ?_, ?_⟩
  · omega
  · omega
  · rw [bne_eq_false_iff_eq]; omega
  · rw [bne_eq_false_iff_eq]; omega
end Divides

theorem divides_zero (ah al : Int) (w : World) :
    Calls Try.prog 6 #[.agg #[.int .u64 ah, .int .u64 al], .int .u64 0] w fun e w' => e = .returned (.bool true) ∧ Below w.heap.size w w' := by
  go_enter Try.func6, Try.ntmps6
  have Pa := (At.new w (ah) (al)).at_ (b' := w.heap.size) (by simp)
  have B := ((Below.refl w.heap.size w).alloc (by first | omega | (simp; done) | (simp; omega)) (.cells #[.int .u64 ah, .int .u64 al] 24))
  go_wp2_with fail
  refine (alive1 _).mono ?_
  rintro e w1 ⟨rfl, hb1⟩
  replace Pa := (Pa).below hb1
  replace B := below_of B hb1 (by first | omega | (simp; done) | (simp; omega))
  have hs1 := B.size
  obtain ⟨pa, qa, ra, fa, ga⟩ := id Pa
  go_wp2_with fail
  refine (div_zero ah al _).mono ?_
  rintro e w2 ⟨rfl, hb2⟩
  replace Pa := (Pa).below hb2
  replace B := below_of B hb2 (by first | omega | (simp; done) | (simp; omega))
  have hs2 := B.size
  obtain ⟨pa, qa, ra, fa, ga⟩ := id Pa
  go_wp2
  go_ret
  exact ⟨rfl, B.alloc (by omega) _⟩

set_option maxHeartbeats 2000000 in
theorem divides_walk (ah al b : Int) (a1 : Word ah) (a2 : Word al) (hb : Word b) (h0 : 0 < b) (w : World) :
    Calls Try.prog 6 #[.agg #[.int .u64 ah, .int .u64 al], .int .u64 b] w fun e w' => e = .returned (.bool true) ∧ Below w.heap.size w w' := by
  have x1 := Divides.quo_word (ah := ah) a2 h0
  have x2 : Word (ah / b) := quot_word a1 h0
  have hb0 : (b == 0) = false := by simp; omega
  go_enter Try.func6, Try.ntmps6
  have Pa := (At.new w (ah) (al)).at_ (b' := w.heap.size) (by simp)
  have B := ((Below.refl w.heap.size w).alloc (by first | omega | (simp; done) | (simp; omega)) (.cells #[.int .u64 ah, .int .u64 al] 24))
  go_wp2_with fail
  refine (alive1 _).mono ?_
  rintro e w1 ⟨rfl, hb1⟩
  replace Pa := (Pa).below hb1
  replace B := below_of B hb1 (by first | omega | (simp; done) | (simp; omega))
  have hs1 := B.size
  obtain ⟨pa, qa, ra, fa, ga⟩ := id Pa
  go_wp2_with fail
  refine (div_any ah al b a1 a2 hb h0 _).mono ?_
  rintro e w2 ⟨rfl, hb2⟩
  replace Pa := (Pa).below hb2
  replace B := below_of B hb2 (by first | omega | (simp; done) | (simp; omega))
  have hs2 := B.size
  obtain ⟨pa, qa, ra, fa, ga⟩ := id Pa
  have Pq := At.new w2 ((ah / b)) ((qL ah al b))
  go_wp2_with fail
  refine (mul_any (qL ah al b) b x1 hb _).mono ?_
  rintro e w3 ⟨rfl, hb3⟩
  replace Pa := (Pa.alloc (.cells #[.int .u64 (ah / b), .int .u64 (qL ah al b)] 24)).below hb3
  replace Pq := (Pq).below hb3
  replace B := below_of (B.alloc (by omega) (.cells #[.int .u64 (ah / b), .int .u64 (qL ah al b)] 24)) hb3 (by first | omega | (simp; done) | (simp; omega))
  have hs3 := B.size
  obtain ⟨pa, qa, ra, fa, ga⟩ := id Pa
  obtain ⟨pq, qq, rq, fq, gq⟩ := id Pq
  have Pl := At.new w3 ((qL ah al b * b / 18446744073709551616)) ((qL ah al b * b % 18446744073709551616))
  go_wp2_with fail
  refine (mul_any (ah / b) b x2 hb _).mono ?_
  rintro e w4 ⟨rfl, hb4⟩
  replace Pa := (Pa.alloc (.cells #[.int .u64 (qL ah al b * b / 18446744073709551616), .int .u64 (qL ah al b * b % 18446744073709551616)] 24)).below hb4
  replace Pq := (Pq.alloc (.cells #[.int .u64 (qL ah al b * b / 18446744073709551616), .int .u64 (qL ah al b * b % 18446744073709551616)] 24)).below hb4
  replace Pl := (Pl).below hb4
  replace B := below_of (B.alloc (by omega) (.cells #[.int .u64 (qL ah al b * b / 18446744073709551616), .int .u64 (qL ah al b * b % 18446744073709551616)] 24)) hb4 (by first | omega | (simp; done) | (simp; omega))
  have hs4 := B.size
  obtain ⟨pa, qa, ra, fa, ga⟩ := id Pa
  obtain ⟨pq, qq, rq, fq, gq⟩ := id Pq
  obtain ⟨pl, ql, rl, fl, gl⟩ := id Pl
  have Ph := At.new w4 (0) ((ah / b * b % 18446744073709551616))
  have t1 := Divides.rest_less ah al h0
  have t2 := Divides.hi_zero b a1 h0
  have t3 : (ah / b * b / 18446744073709551616 != 0) = false := by simp [t2]
  go_wp2_with fail
  refine (add_any _ _ _ _ (Divides.div_word x1 hb) (word_mod _) (word_mod _) ⟨by decide, by decide⟩ _).mono ?_
  rintro e w5 ⟨rfl, hb5⟩
  replace Pa := (Pa.alloc (.cells #[.int .u64 0, .int .u64 (ah / b * b % 18446744073709551616)] 24)).below hb5
  replace Pq := (Pq.alloc (.cells #[.int .u64 0, .int .u64 (ah / b * b % 18446744073709551616)] 24)).below hb5
  replace Pl := (Pl.alloc (.cells #[.int .u64 0, .int .u64 (ah / b * b % 18446744073709551616)] 24)).below hb5
  replace Ph := (Ph).below hb5
  replace B := below_of (B.alloc (by omega) (.cells #[.int .u64 0, .int .u64 (ah / b * b % 18446744073709551616)] 24)) hb5 (by first | omega | (simp; done) | (simp; omega))
  have hs5 := B.size
  obtain ⟨pa, qa, ra, fa, ga⟩ := id Pa
  obtain ⟨pq, qq, rq, fq, gq⟩ := id Pq
  obtain ⟨pl, ql, rl, fl, gl⟩ := id Pl
  obtain ⟨ph, qh, rh, fh, gh⟩ := id Ph
  have Ps := At.new w5 ((sH (qL ah al b * b / 18446744073709551616) (qL ah al b * b % 18446744073709551616) (ah / b * b % 18446744073709551616) 0)) ((sL (qL ah al b * b % 18446744073709551616) 0))
  go_wp2_with fail
  refine (add_any _ _ 0 (qR ah al b) (Divides.sH_word _ _ _ _) (Divides.sL_word _ _) ⟨by decide, by decide⟩ (Divides.rest_word b hb h0 ah al) _).mono ?_
  rintro e w6 ⟨rfl, hb6⟩
  replace Pa := (Pa.alloc (.cells #[.int .u64 (sH (qL ah al b * b / 18446744073709551616) (qL ah al b * b % 18446744073709551616) (ah / b * b % 18446744073709551616) 0), .int .u64 (sL (qL ah al b * b % 18446744073709551616) 0)] 24)).below hb6
  replace Pq := (Pq.alloc (.cells #[.int .u64 (sH (qL ah al b * b / 18446744073709551616) (qL ah al b * b % 18446744073709551616) (ah / b * b % 18446744073709551616) 0), .int .u64 (sL (qL ah al b * b % 18446744073709551616) 0)] 24)).below hb6
  replace Pl := (Pl.alloc (.cells #[.int .u64 (sH (qL ah al b * b / 18446744073709551616) (qL ah al b * b % 18446744073709551616) (ah / b * b % 18446744073709551616) 0), .int .u64 (sL (qL ah al b * b % 18446744073709551616) 0)] 24)).below hb6
  replace Ph := (Ph.alloc (.cells #[.int .u64 (sH (qL ah al b * b / 18446744073709551616) (qL ah al b * b % 18446744073709551616) (ah / b * b % 18446744073709551616) 0), .int .u64 (sL (qL ah al b * b % 18446744073709551616) 0)] 24)).below hb6
  replace Ps := (Ps).below hb6
  replace B := below_of (B.alloc (by omega) (.cells #[.int .u64 (sH (qL ah al b * b / 18446744073709551616) (qL ah al b * b % 18446744073709551616) (ah / b * b % 18446744073709551616) 0), .int .u64 (sL (qL ah al b * b % 18446744073709551616) 0)] 24)) hb6 (by first | omega | (simp; done) | (simp; omega))
  have hs6 := B.size
  obtain ⟨pa, qa, ra, fa, ga⟩ := id Pa
  obtain ⟨pq, qq, rq, fq, gq⟩ := id Pq
  obtain ⟨pl, ql, rl, fl, gl⟩ := id Pl
  obtain ⟨ph, qh, rh, fh, gh⟩ := id Ph
  obtain ⟨ps, qs, rs, fs, gs⟩ := id Ps
  obtain ⟨y1, y2, y3, y4⟩ := Divides.all a1 a2 hb h0
  go_wp2
  go_ret
  exact ⟨rfl, (B.setCell (by simp; omega) _).setCell (by simp; omega) _⟩
theorem divides_all (ah al b : Int) (a1 : Word ah) (a2 : Word al) (hb : Word b) (w : World) :
    Calls Try.prog 6 #[.agg #[.int .u64 ah, .int .u64 al], .int .u64 b] w fun e w' => e = .returned (.bool true) ∧ Below w.heap.size w w' := by
  by_cases h : b = 0
  · subst h
    exact divides_zero ah al w
  · exact divides_walk ah al b a1 a2 hb (by have := hb.1; omega) w
end Go.Proofs.Ytopjhemahokmeaa
