/- FracAdds of package weirhouselaw: the numbers behind its walks. -/
import Derived.Test.YtfopcipapphogaaFAdds2
namespace Go.Proofs.Ytfopcipapphogaa
open Go.RowKit

namespace FA
theorem cross (n d : Int) : lN n d * d = n * lD n d := by
  have e1 := lN_mul n d
  have e2 := lD_mul n d
  generalize lN n d = a at *
  generalize lD n d = b at *
  generalize gF n d = g at *
  subst e1
  rw [← e2]
  ac_rfl
theorem add_low {an ad bn bd : Int} (ha : 0 < ad) (hb : 0 < bd) :
    lN (lN an ad * lD bn bd + lN bn bd * lD an ad) (lD an ad * lD bn bd) = lN (an * bd + bn * ad) (ad * bd) ∧ lD (lN an ad * lD bn bd + lN bn bd * lD an ad) (lD an ad * lD bn bd) = lD (an * bd + bn * ad) (ad * bd) := by
  have c1 := cross an ad
  have c2 := cross bn bd
  have p1 := lD_pos (n := an) ha
  have p2 := lD_pos (n := bn) hb
  refine low_eq (Int.mul_pos p1 p2) (Int.mul_pos ha hb) ?_
  generalize lN an ad = x1 at *
  generalize lD an ad = y1 at *
  generalize lN bn bd = x2 at *
  generalize lD bn bd = y2 at *
  have l1 : x1 * y2 * (ad * bd) = x1 * ad * (y2 * bd) := by ac_rfl
  have l2 : x2 * y1 * (ad * bd) = x2 * bd * (y1 * ad) := by ac_rfl
  rw [Int.add_mul, l1, l2, c1, c2, Int.add_mul]
  congr 1 <;> ac_rfl
theorem mul_low {an ad bn bd : Int} (ha : 0 < ad) (hb : 0 < bd) :
    lN (lN an ad * lN bn bd) (lD an ad * lD bn bd) = lN (an * bn) (ad * bd) ∧ lD (lN an ad * lN bn bd) (lD an ad * lD bn bd) = lD (an * bn) (ad * bd) := by
  have c1 := cross an ad
  have c2 := cross bn bd
  have p1 := lD_pos (n := an) ha
  have p2 := lD_pos (n := bn) hb
  refine low_eq (Int.mul_pos p1 p2) (Int.mul_pos ha hb) ?_
  generalize lN an ad = x1 at *
  generalize lD an ad = y1 at *
  generalize lN bn bd = x2 at *
  generalize lD bn bd = y2 at *
  have l1 : x1 * x2 * (ad * bd) = x1 * ad * (x2 * bd) := by ac_rfl
  rw [l1, c1, c2]
  ac_rfl
theorem sign_mul {a K : Int} (hK : 0 < K) : cmpI (a * K) 0 = cmpI a 0 := by
  have e : a * K < 0 ↔ a < 0 := by
    constructor
    · intro h
      rcases Int.lt_or_le a 0 with c | c
      · exact c
      · have := Int.mul_nonneg c (show 0 ≤ K by omega)
        omega
    · intro h
      exact Int.mul_neg_of_neg_of_pos h hK
  have e2 : 0 < a * K ↔ 0 < a := by
    constructor
    · intro h
      rcases Int.lt_or_le 0 a with c | c
      · exact c
      · have := Int.mul_nonneg (show 0 ≤ -a by omega) (show 0 ≤ K by omega)
        rw [Int.neg_mul] at this
        omega
    · intro h
      exact Int.mul_pos h hK
  unfold cmpI
  simp only [e, e2]
theorem sign_low {p q : Int} (hq : 0 < q) : cmpI (lN p q) 0 = cmpI p 0 := by
  rw [← sign_mul (gF_pos (n := p) hq), lN_mul]
theorem sign_sub (u v : Int) : cmpI (u - v) 0 = cmpI u v := by
  unfold cmpI
  by_cases h1 : u < v
  · rw [if_pos (by omega), if_pos h1]
  · rw [if_neg (by omega), if_neg h1]
    by_cases h2 : v < u
    · rw [if_pos (by omega), if_pos h2]
    · rw [if_neg (by omega), if_neg h2]
theorem cmp_low {an ad bn bd : Int} (ha : 0 < ad) (hb : 0 < bd) :
    cmpI (lN (lN an ad * lD (-lN bn bd) (lD bn bd) + lN (-lN bn bd) (lD bn bd) * lD an ad) (lD an ad * lD (-lN bn bd) (lD bn bd))) 0 = cmpI (an * bd) (bn * ad) := by
  have c1 := cross an ad
  have c2 := cross bn bd
  have p1 := lD_pos (n := an) ha
  have p2 := lD_pos (n := bn) hb
  generalize lN an ad = x1 at *
  generalize lD an ad = y1 at *
  generalize lN bn bd = x2 at *
  generalize lD bn bd = y2 at *
  have c3 := cross (-x2) y2
  have p3 := lD_pos (n := -x2) p2
  rw [sign_low (Int.mul_pos p1 p3)]
  generalize lN (-x2) y2 = x3 at *
  generalize lD (-x2) y2 = y3 at *
  rw [← sign_sub (an * bd) (bn * ad), ← sign_mul (a := x1 * y3 + x3 * y1) (show 0 < ad * bd * y2 from Int.mul_pos (Int.mul_pos ha hb) p2), ← sign_mul (a := an * bd - bn * ad) (show 0 < y1 * y3 * y2 from Int.mul_pos (Int.mul_pos p1 p3) p2)]
  congr 1
  have l1 : x1 * y3 * (ad * bd * y2) = x1 * ad * (y3 * bd * y2) := by ac_rfl
  have l2 : x3 * y1 * (ad * bd * y2) = x3 * y2 * (y1 * ad * bd) := by ac_rfl
  rw [Int.add_mul, l1, l2, c1, c3, Int.sub_mul, Int.neg_mul, Int.neg_mul]
  have l3 : x2 * y3 * (y1 * ad * bd) = x2 * bd * (y3 * y1 * ad) := by ac_rfl
  have l4 : bn * y2 * (y3 * y1 * ad) = bn * ad * (y1 * y3 * y2) := by ac_rfl
  have l5 : an * y1 * (y3 * bd * y2) = an * bd * (y1 * y3 * y2) := by ac_rfl
  rw [l3, c2, l4, l5]
  omega
theorem small {n d : Int} (h : FOk n d) : 0 < lD n d ∧ (lN n d).natAbs ≤ 1073741824 ∧ (lD n d).natAbs ≤ 1073741824 := by
  obtain ⟨d0, d1, n0, n1⟩ := h
  have l := low_abs (a := n) (b := d) d0
  exact ⟨lD_pos d0, by omega, by omega⟩
theorem bfrac {x y : Int} (p1 : 0 < y) (hx : x.natAbs < 9223372036854775808) (hy : y.natAbs < 9223372036854775808) {n d e : Int} (h : (FOk x y ∧ n = x ∧ d = y ∧ e = 0) ∨ (¬ FOk x y ∧ n = 0 ∧ d = 0 ∧ e = 4)) (g : Nat) (w : World) (Q : RatAt w g x y) :
    Calls Try.prog 36 #[.pointer (some ⟨g, 0, none⟩)] w fun r w' => r = .returned (.tuple #[.agg #[.int .i64 n, .int .i64 d], .int .i64 e]) ∧ Below w.heap.size w w' := by
  rcases h with ⟨hk, rfl, rfl, rfl⟩ | ⟨hk, rfl, rfl, rfl⟩
  · exact bfrac_yes g n d w Q p1 hx hy hk
  · exact bfrac_no g x y w Q p1 hx hy hk
end FA

theorem fadds_all (an ad bn bd : Int) (w : World) :
    Calls Try.prog 5 #[.agg #[.int .i64 an, .int .i64 ad], .agg #[.int .i64 bn, .int .i64 bd]] w fun e w' => e = .returned (.bool true) ∧ Below w.heap.size w w' := by
  by_cases h1 : FOk an ad
  · by_cases h2 : FOk bn bd
    · have ha : 0 < ad := h1.d0
      have hb : 0 < bd := h2.d0
      obtain ⟨p1, q1, r1⟩ := FA.small h1
      obtain ⟨p2, q2, r2⟩ := FA.small h2
      have u1 := mul_small q1 r2
      have u2 := mul_small q2 r1
      have u3 := mul_small r1 r2
      have u4 := mul_small q1 q2
      have pp := Int.mul_pos p1 p2
      have la := FA.add_low (an := an) (bn := bn) ha hb
      have lm := FA.mul_low (an := an) (bn := bn) ha hb
      have lc := FA.cmp_low (an := an) (bn := bn) ha hb
      have wa := low_abs (a := lN an ad * lD bn bd + lN bn bd * lD an ad) pp
      have wm := low_abs (a := lN an ad * lN bn bd) pp
      have za := lD_pos (n := lN an ad * lD bn bd + lN bn bd * lD an ad) pp
      have zm := lD_pos (n := lN an ad * lN bn bd) pp
      have c1 := cmpF_yes an ad bn bd h1 h2
      obtain ⟨sn, sd, e1, k1, c2⟩ : ∃ sn sd e1 : Int, ((FOk (lN (an * bd + bn * ad) (ad * bd)) (lD (an * bd + bn * ad) (ad * bd)) ∧ sn = lN (an * bd + bn * ad) (ad * bd) ∧ sd = lD (an * bd + bn * ad) (ad * bd) ∧ e1 = 0) ∨ (¬ FOk (lN (an * bd + bn * ad) (ad * bd)) (lD (an * bd + bn * ad) (ad * bd)) ∧ sn = 0 ∧ sd = 0 ∧ e1 = 4)) ∧
          ∀ w, Calls Try.prog 31 #[.agg #[.int .i64 an, .int .i64 ad], .agg #[.int .i64 bn, .int .i64 bd]] w fun e w' => e = .returned (.tuple #[.agg #[.int .i64 sn, .int .i64 sd], .int .i64 e1]) ∧ Below w.heap.size w w' := by
        by_cases hk : FOk (lN (an * bd + bn * ad) (ad * bd)) (lD (an * bd + bn * ad) (ad * bd))
        · exact ⟨_, _, _, .inl ⟨hk, rfl, rfl, rfl⟩, addF_yes an ad bn bd h1 h2 hk⟩
        · exact ⟨_, _, _, .inr ⟨hk, rfl, rfl, rfl⟩, addF_full an ad bn bd h1 h2 hk⟩
      obtain ⟨pn, pd, e2, k2, c3⟩ : ∃ pn pd e2 : Int, ((FOk (lN (an * bn) (ad * bd)) (lD (an * bn) (ad * bd)) ∧ pn = lN (an * bn) (ad * bd) ∧ pd = lD (an * bn) (ad * bd) ∧ e2 = 0) ∨ (¬ FOk (lN (an * bn) (ad * bd)) (lD (an * bn) (ad * bd)) ∧ pn = 0 ∧ pd = 0 ∧ e2 = 4)) ∧
          ∀ w, Calls Try.prog 32 #[.agg #[.int .i64 an, .int .i64 ad], .agg #[.int .i64 bn, .int .i64 bd]] w fun e w' => e = .returned (.tuple #[.agg #[.int .i64 pn, .int .i64 pd], .int .i64 e2]) ∧ Below w.heap.size w w' := by
        by_cases hk : FOk (lN (an * bn) (ad * bd)) (lD (an * bn) (ad * bd))
        · exact ⟨_, _, _, .inl ⟨hk, rfl, rfl, rfl⟩, mulF_yes an ad bn bd h1 h2 hk⟩
        · exact ⟨_, _, _, .inr ⟨hk, rfl, rfl, rfl⟩, mulF_full an ad bn bd h1 h2 hk⟩
      rw [← la.1, ← la.2] at k1
      rw [← lm.1, ← lm.2] at k2
      rw [← lc] at c1
      exact fadds_yes an ad bn bd _ sn sd e1 pn pd e2 _ _ _ _ _ _ _ _ h1 h2 c1 c2 c3 (brat_any an ad h1) (brat_any bn bd h2)
        (fun gz gx gy w Rz Qx Qy => radd_any gz gx gy _ _ _ _ w Rz Qx Qy p1 p2 (by omega) (by omega) (by omega))
        (FA.bfrac za (by omega) (by omega) k1)
        (fun gz gx gy w Rz Qx Qy => rmul_any gz gx gy _ _ _ _ w Rz Qx Qy p1 p2 (by omega) (by omega))
        (FA.bfrac zm (by omega) (by omega) k2)
        (fun gx gy w Qx Qy => rcmp_any gx gy _ _ _ _ w Qx Qy p1 p2 q1 r1 q2 r2) w
    · exact fadds_no2 an ad bn bd h1 h2 w
  · exact fadds_no1 an ad bn bd h1 w
end Go.Proofs.Ytfopcipapphogaa
