/- Plain arithmetic of fractions in lowest terms and of whole roots: no Go in sight. -/
import Derived.Test.YtemoleopabddnaaWd0
namespace Go.Proofs.Ytemoleopabddnaa

/-- The greatest common divisor of a numerator and a denominator. -/
def gF (n d : Int) : Int := ((Nat.gcd n.natAbs d.natAbs : Nat) : Int)
theorem gF_pos {n d : Int} (h : 0 < d) : 0 < gF n d := by
  unfold gF
  have := Nat.gcd_pos_of_pos_right n.natAbs (show 0 < d.natAbs by omega)
  omega
theorem gF_le {n d : Int} (h : 0 < d) : gF n d ≤ d := by
  unfold gF
  have := Nat.gcd_le_right n.natAbs (show 0 < d.natAbs by omega)
  omega
theorem gF_dvd_left (n d : Int) : gF n d ∣ n := by
  unfold gF
  exact Int.ofNat_dvd_left.2 (Nat.gcd_dvd_left _ _)
theorem gF_dvd_right (n d : Int) : gF n d ∣ d := by
  unfold gF
  exact Int.ofNat_dvd_left.2 (Nat.gcd_dvd_right _ _)
/-- Numerator and denominator in lowest terms. -/
def lN (n d : Int) : Int := n / gF n d
def lD (n d : Int) : Int := d / gF n d
theorem lN_mul (n d : Int) : lN n d * gF n d = n := Int.ediv_mul_cancel (gF_dvd_left n d)
theorem lD_mul (n d : Int) : lD n d * gF n d = d := Int.ediv_mul_cancel (gF_dvd_right n d)
theorem lD_pos {n d : Int} (h : 0 < d) : 0 < lD n d := by
  have hg := gF_pos (n := n) h
  have e := lD_mul n d
  rcases Int.lt_or_le 0 (lD n d) with c | c
  · exact c
  · have := Int.mul_le_mul_of_nonneg_right c (show 0 ≤ gF n d by omega)
    omega
theorem lD_le {n d : Int} (h : 0 < d) : lD n d ≤ d := Int.ediv_le_self _ (by omega)
theorem lN_abs {n d B : Int} (h : 0 < d) (h0 : -B ≤ n) (h1 : n ≤ B) : -B ≤ lN n d ∧ lN n d ≤ B := by
  have hg := gF_pos (n := n) h
  have e := lN_mul n d
  have hB : 0 ≤ B := by omega
  rcases Int.lt_or_le 0 (lN n d) with c | c
  · have := Int.mul_le_mul_of_nonneg_left (show 1 ≤ gF n d by omega) (show 0 ≤ lN n d by omega)
    omega
  · have := Int.mul_le_mul_of_nonneg_left (show 1 ≤ gF n d by omega) (show 0 ≤ - lN n d by omega)
    rw [Int.neg_mul, Int.neg_mul] at this
    omega
theorem tdiv_lN (n d : Int) : n.tdiv (gF n d) = lN n d := by
  unfold lN
  exact Int.tdiv_eq_ediv_of_dvd (gF_dvd_left n d)
theorem tdiv_lD (n d : Int) : d.tdiv (gF n d) = lD n d := by
  unfold lD
  exact Int.tdiv_eq_ediv_of_dvd (gF_dvd_right n d)

/-- Equal fractions have the same lowest terms. -/
theorem low_eq {n d n' d' : Int} (hd : 0 < d) (hd' : 0 < d') (h : n * d' = n' * d) : lN n d = lN n' d' ∧ lD n d = lD n' d' := by
  have hg := gF_pos (n := n) hd
  have hg' := gF_pos (n := n') hd'
  have k : d * gF n' d' = d' * gF n d := by
    unfold gF
    have e1 : Nat.gcd n.natAbs d.natAbs * d'.natAbs = Nat.gcd (n.natAbs * d'.natAbs) (d.natAbs * d'.natAbs) := (Nat.gcd_mul_right _ _ _).symm
    have e2 : Nat.gcd n'.natAbs d'.natAbs * d.natAbs = Nat.gcd (n'.natAbs * d.natAbs) (d'.natAbs * d.natAbs) := (Nat.gcd_mul_right _ _ _).symm
    rw [← Int.natAbs_mul, h, Int.natAbs_mul, Nat.mul_comm d.natAbs d'.natAbs, ← e2] at e1
    have a : (d.natAbs : Int) = d := by omega
    have a' : (d'.natAbs : Int) = d' := by omega
    have e3 : ((Nat.gcd n.natAbs d.natAbs : Nat) : Int) * (d'.natAbs : Int) = ((Nat.gcd n'.natAbs d'.natAbs : Nat) : Int) * (d.natAbs : Int) := by exact_mod_cast e1
    rw [a, a'] at e3
    rw [Int.mul_comm d, Int.mul_comm d', e3]
  have eD : lD n d = lD n' d' := by
    have e1 := lD_mul n d
    have e2 := lD_mul n' d'
    have : lD n d * (gF n d * gF n' d') = lD n' d' * (gF n d * gF n' d') := by
      rw [← Int.mul_assoc, e1, Int.mul_comm (gF n d), ← Int.mul_assoc, e2, k]
    exact Int.eq_of_mul_eq_mul_right (by have := Int.mul_pos hg hg'; omega) this
  refine ⟨?_, eD⟩
  have p := lD_pos (n := n) hd
  have m1 := lN_mul n d
  have m2 := lN_mul n' d'
  have d1 := lD_mul n d
  have d2 := lD_mul n' d'
  rw [← eD] at d2
  have : lN n d * (gF n d * (lD n d * gF n' d')) = lN n' d' * (gF n d * (lD n d * gF n' d')) := by
    have l1 : lN n d * (gF n d * (lD n d * gF n' d')) = n * d' := by rw [← Int.mul_assoc, m1, d2]
    have l2 : lN n' d' * (gF n d * (lD n d * gF n' d')) = n' * d := by
      rw [show gF n d * (lD n d * gF n' d') = gF n' d' * (lD n d * gF n d) from by
        rw [Int.mul_comm (gF n d), Int.mul_assoc, Int.mul_comm (lD n d), Int.mul_assoc, Int.mul_comm (gF n d)], ← Int.mul_assoc, m2, d1]
    rw [l1, l2, h]
  refine Int.eq_of_mul_eq_mul_right ?_ this
  have := Int.mul_pos hg (Int.mul_pos p hg')
  omega

end Go.Proofs.Ytemoleopabddnaa
