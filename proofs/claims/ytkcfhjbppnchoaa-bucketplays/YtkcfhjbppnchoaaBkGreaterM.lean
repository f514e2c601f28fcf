/- A greater burst or rate takes a single shot that lesser ones take: plain. -/
import Derived.Test.YtkcfhjbppnchoaaBkTimeM
namespace Go.Proofs.Ytkcfhjbppnchoaa

theorem played_ok {num den burst : Int} {xs : List (Int × Int)} (h : (played num den burst xs).2.2 = 0) :
    rate num den burst = true ∧ srt xs = true ∧ fine (Bk.full num den burst) xs = true ∧ played num den burst xs = ((run (Bk.full num den burst) xs).1, (run (Bk.full num den burst) xs).2, 0) := by
  unfold played at h ⊢
  cases hr : rate num den burst with
  | false => rw [hr] at h; simp at h
  | true =>
    cases hs : srt xs with
    | false => rw [hr, hs] at h; simp at h
    | true =>
      cases hf : fine (Bk.full num den burst) xs with
      | false => rw [hr, hs, hf] at h; simp at h
      | true => exact ⟨rfl, rfl, rfl, rfl⟩
theorem full_ok {num den burst : Int} (h : rate num den burst = true) : (Bk.full num den burst).Ok := Bk.right_iff.1 ((full_right num den burst).trans h)
/-- A bucket that is full stays full. -/
theorem full_level {num den burst : Int} (h : rate num den burst = true) {t : Int} (t0 : 0 ≤ t) : (Bk.full num den burst).level t = burst * den := by
  have := Int.mul_nonneg (full_ok h).n0 (show 0 ≤ t - (Bk.full num den burst).tm by show 0 ≤ t - 0; omega)
  show min (burst * den + num * (t - 0)) (burst * den) = burst * den
  have e : num * (t - 0) = (Bk.full num den burst).num * (t - (Bk.full num den burst).tm) := rfl
  omega
/-- Two shots at a full bucket. -/
theorem two_shots {num den burst t1 n1 t2 n2 : Int} (h : (played num den burst [(t1, n1), (t2, n2)]).2.2 = 0) :
    ∃ a0 a1 c, played num den burst [(t1, n1), (t2, n2)] = ([a0, a1], c, 0) ∧ rate num den burst = true ∧ 0 ≤ t1 ∧ t1 ≤ t2 ∧ 0 ≤ n1 ∧
      (a0 = true → n1 * den ≤ burst * den) ∧ a1 = decide (n2 * den ≤ min (burst * den - (if a0 = true then n1 * den else 0) + num * (t2 - t1)) (burst * den)) := by
  obtain ⟨hr, hs, hf, hp⟩ := played_ok h
  have hok := full_ok hr
  rw [fine, fine, fine, Bool.and_true, Bool.and_eq_true, decide_eq_true_iff, decide_eq_true_iff] at hf
  obtain ⟨hf1, hf2⟩ := hf
  dsimp only at hf1 hf2
  have hl := full_level hr (t := t1)
  rcases take_ok hok t1 n1 with ⟨_, hok1, k1, k2, k3, k4, k5⟩ | ⟨k, _⟩
  · have t0 : 0 ≤ t1 := k1
    have hsh := hok.shoot k1 k2 k3 k4
    rw [k5] at hok1 hf2
    dsimp only at hok1 hf2
    rcases take_ok hok1 t2 n2 with ⟨_, _, j1, j2, j3, j4, j5⟩ | ⟨k, _⟩
    · rw [hsh.2.1] at j1
      refine ⟨((Bk.full num den burst).shoot t1 n1).2, (((Bk.full num den burst).shoot t1 n1).1.shoot t2 n2).2, (((Bk.full num den burst).shoot t1 n1).1.shoot t2 n2).1, ?_, hr, t0, j1, k3, ?_, ?_⟩
      · rw [hp, run_cons, run_cons]
        dsimp only
        rw [k5]
        dsimp only
        rw [j5]
        rfl
      · intro e
        unfold Bk.shoot at e
        split at e
        · rename_i c
          rw [hl t0] at c
          exact c
        · cases e
      · have hden : ((Bk.full num den burst).shoot t1 n1).1.den = den := hsh.2.2.1
        have key : (((Bk.full num den burst).shoot t1 n1).1).level t2 = min (burst * den - (if ((Bk.full num den burst).shoot t1 n1).2 = true then n1 * den else 0) + num * (t2 - t1)) (burst * den) := by
          unfold Bk.level
          rw [hsh.2.1, hsh.2.2.2.1, hsh.2.2.2.2, hden]
          have hlv : ((Bk.full num den burst).shoot t1 n1).1.lev = burst * den - (if ((Bk.full num den burst).shoot t1 n1).2 = true then n1 * den else 0) := by
            unfold Bk.shoot
            split
            · show (Bk.full num den burst).level t1 - n1 * den = _
              rw [hl t0]
              simp
            · show (Bk.full num den burst).level t1 = _
              rw [hl t0]
              simp
          rw [hlv]
          rfl
        rw [← key]
        generalize ((Bk.full num den burst).shoot t1 n1).1 = B at *
        unfold Bk.shoot
        rw [hden]
        split
        · rename_i c; rw [decide_eq_true c]
        · rename_i c; rw [decide_eq_false c]
    · rw [k] at hf2
      exact absurd hf2 (by decide)
  · rw [k] at hf1
    exact absurd hf1 (by decide)
theorem greater_all {num den burst more faster t1 n1 t2 n2 : Int} (m0 : 0 ≤ more) (f0 : 0 ≤ faster) {a0 a1 b0 b1 : Bool} {c c' : Bk}
    (ha : played num den burst [(t1, n1), (t2, n2)] = ([a0, a1], c, 0)) (hb : played (num + faster) den (burst + more) [(t1, n1), (t2, n2)] = ([b0, b1], c', 0)) (h0 : a0 = b0) (h1 : a1 = true) : b1 = true := by
  obtain ⟨x0, x1, xc, hx, hr, k1, k2, k3, k4, k5⟩ := two_shots (by rw [ha])
  obtain ⟨y0, y1, yc, hy, _, _, _, _, j4, j5⟩ := two_shots (by rw [hb])
  rw [ha] at hx
  rw [hb] at hy
  simp only [Prod.mk.injEq, List.cons.injEq, and_true] at hx hy
  obtain ⟨⟨rfl, rfl⟩, _⟩ := hx
  obtain ⟨⟨rfl, rfl⟩, _⟩ := hy
  subst h0
  rw [h1] at k5
  have k6 := of_decide_eq_true k5.symm
  rw [j5]
  refine decide_eq_true ?_
  have hok := full_ok hr
  have hd := hok.d0
  have e1 : (burst + more) * den = burst * den + more * den := Int.add_mul _ _ _
  have e2 : (num + faster) * (t2 - t1) = num * (t2 - t1) + faster * (t2 - t1) := Int.add_mul _ _ _
  have e3 : 0 ≤ more * den := Int.mul_nonneg m0 (by have : (Bk.full num den burst).den = den := rfl; omega)
  have e4 : 0 ≤ faster * (t2 - t1) := Int.mul_nonneg f0 (by omega)
  rw [e1, e2]
  generalize (if a0 = true then n1 * den else 0) = Z at *
  omega
end Go.Proofs.Ytkcfhjbppnchoaa
