/- Never more than the burst, and what comes with time: plain. -/
import Derived.Test.YtkcfhjbppnchoaaBkGreaterM
namespace Go.Proofs.Ytkcfhjbppnchoaa

theorem run_append (b : Bk) (xs ys : List (Int × Int)) : run b (xs ++ ys) = ((run b xs).1 ++ (run (run b xs).2 ys).1, (run (run b xs).2 ys).2) := by
  unfold run
  rw [List.foldl_append]
  exact run_from _ _
theorem run_get {b : Bk} {xs : List (Int × Int)} {k : Nat} {x : Int × Int} (h : xs[k]? = some x) : (run b xs).1[k]? = some ((run b (xs.take k)).2.take x.1 x.2).2.1 := by
  have hk := (List.getElem?_eq_some_iff.1 h).1
  have e : xs = xs.take (k + 1) ++ xs.drop (k + 1) := (List.take_append_drop _ _).symm
  conv => lhs; rw [e]
  rw [run_append, run_next h]
  unfold shotAct
  dsimp only
  rw [List.append_assoc, List.getElem?_append_right (by rw [run_length, List.length_take]; omega), run_length, List.length_take]
  rw [show k - min k xs.length = 0 by omega]
  rfl
theorem fine_take {b : Bk} {xs : List (Int × Int)} (h : fine b xs = true) (k : Nat) : fine b (xs.take k) = true := by
  cases c : fine b (xs.take k) with
  | true => rfl
  | false => rw [fine_stop c] at h; cases h
/-- What shot k takes. -/
def got (l : List Bool) (xs : List (Int × Int)) (k : Nat) : Int := match l[k]?, xs[k]? with | some true, some x => x.2 | _, _ => 0
/-- What d shots from the i-th on take. -/
def gotS (l : List Bool) (xs : List (Int × Int)) (i : Nat) : Nat → Int
  | 0 => 0
  | d + 1 => gotS l xs i d + got l xs (i + d)
def levK (b : Bk) (xs : List (Int × Int)) (k : Nat) : Int := (run b (xs.take k)).2.lev
/-- A shot: what it takes, and what is left. -/
theorem step_one {b : Bk} (h : b.Ok) {xs : List (Int × Int)} (hf : fine b xs = true) {k : Nat} {x : Int × Int} (hx : xs[k]? = some x) :
    0 ≤ x.2 ∧ x.2 ≤ 1048576 ∧ x.1 ≤ 1099511627776 ∧ (run b (xs.take k)).2.tm ≤ x.1 ∧ (run b (xs.take (k + 1))).2.tm = x.1 ∧ (run b (xs.take (k + 1))).2.den = (run b (xs.take k)).2.den ∧ (run b (xs.take (k + 1))).2.num = (run b (xs.take k)).2.num ∧ (run b (xs.take (k + 1))).2.burst = (run b (xs.take k)).2.burst ∧
      got (run b xs).1 xs k * (run b (xs.take k)).2.den + levK b xs (k + 1) = (run b (xs.take k)).2.level x.1 ∧ 0 ≤ levK b xs (k + 1) ∧ 0 ≤ got (run b xs).1 xs k ∧ got (run b xs).1 xs k ≤ 1048576 ∧ (got (run b xs).1 xs k = if (run b xs).1[k]? = some true then x.2 else 0) := by
  have hok := fine_ok h (fine_take hf k)
  have hn := fine_next hx (fine_take hf k)
  rw [fine_take hf (k + 1)] at hn
  have hr := run_next (b := b) hx
  have hg := run_get (b := b) hx
  have hgot : got (run b xs).1 xs k = if (run b xs).1[k]? = some true then x.2 else 0 := by
    unfold got
    rw [hx, hg]
    cases ((run b (xs.take k)).2.take x.1 x.2).2.1 <;> simp
  unfold levK
  rw [hr]
  unfold shotAct
  dsimp only
  rcases take_ok hok x.1 x.2 with ⟨_, hok2, k1, k2, k3, k4, k5⟩ | ⟨k5, _⟩
  · have hsh := hok.shoot k1 k2 k3 k4
    rw [k5] at hok2 hg ⊢
    dsimp only at hok2 hg ⊢
    have hp := hok2.l0
    refine ⟨k3, k4, k2, k1, hsh.2.1, hsh.2.2.1, hsh.2.2.2.1, hsh.2.2.2.2, ?_, hp, ?_, ?_, hgot⟩
    · rw [hgot, hg]
      unfold Bk.shoot
      split
      · show (if some true = some true then x.2 else 0) * _ + ((run b (xs.take k)).2.level x.1 - x.2 * (run b (xs.take k)).2.den) = _
        rw [if_pos rfl]
        omega
      · show (if some false = some true then x.2 else 0) * _ + (run b (xs.take k)).2.level x.1 = _
        rw [if_neg (by simp)]
        omega
    · rw [hgot]; split <;> omega
    · rw [hgot]; split <;> omega
  · rw [k5] at hn
    exact absurd hn (by decide)
theorem run_same {b : Bk} (h : b.Ok) {xs : List (Int × Int)} (hf : fine b xs = true) (k : Nat) : (run b (xs.take k)).2.den = b.den ∧ (run b (xs.take k)).2.num = b.num ∧ (run b (xs.take k)).2.burst = b.burst := by
  induction k with
  | zero => exact ⟨rfl, rfl, rfl⟩
  | succ k ih =>
    cases hx : xs[k]? with
    | none =>
      have : xs.take (k + 1) = xs.take k := by
        have := List.getElem?_eq_none_iff.1 hx
        rw [List.take_of_length_le (by omega), List.take_of_length_le this]
      rw [this]
      exact ih
    | some x =>
      obtain ⟨_, _, _, _, _, h1, h2, h3, _⟩ := step_one h hf hx
      exact ⟨h1.trans ih.1, h2.trans ih.2.1, h3.trans ih.2.2⟩
theorem bound_all {b : Bk} (h : b.Ok) {xs : List (Int × Int)} (hf : fine b xs = true) {i d : Nat} {x y : Int × Int} (hx : xs[i]? = some x) (hy : xs[i + d]? = some y) :
    gotS (run b xs).1 xs i (d + 1) * b.den + levK b xs (i + d + 1) ≤ b.burst * b.den + b.num * (y.1 - x.1) ∧ x.1 ≤ y.1 := by
  induction d generalizing y with
  | zero =>
    rw [Nat.add_zero] at hy
    rw [hx] at hy
    injection hy with hy
    subst hy
    obtain ⟨_, _, _, _, _, _, _, _, h5, _⟩ := step_one h hf hx
    obtain ⟨e1, e2, e3⟩ := run_same h hf i
    rw [e1] at h5
    have : (run b (xs.take i)).2.level x.1 ≤ b.burst * b.den := by
      unfold Bk.level
      rw [e1, e3]
      omega
    simp only [gotS, Nat.add_zero, Int.zero_add, Int.sub_self, Int.mul_zero]
    omega
  | succ d ih =>
    have hd : i + d < xs.length := by have := (List.getElem?_eq_some_iff.1 hy).1; omega
    obtain ⟨i1, i2⟩ := ih (List.getElem?_eq_getElem hd)
    obtain ⟨_, _, _, _, t1, _⟩ := step_one h hf (List.getElem?_eq_getElem hd)
    have hy' : xs[i + d + 1]? = some y := hy
    obtain ⟨_, _, _, t2, _, _, _, _, h5, _⟩ := step_one h hf hy'
    obtain ⟨e1, e2, e3⟩ := run_same h hf (i + d + 1)
    rw [e1] at h5
    rw [t1] at t2
    have hl : (run b (xs.take (i + d + 1))).2.level y.1 ≤ levK b xs (i + d + 1) + b.num * (y.1 - xs[i + d].1) := by
      unfold Bk.level levK
      rw [e2, t1]
      omega
    refine ⟨?_, by omega⟩
    have eg : gotS (run b xs).1 xs i (d + 1 + 1) = gotS (run b xs).1 xs i (d + 1) + got (run b xs).1 xs (i + d + 1) := rfl
    have em : b.num * (y.1 - x.1) = b.num * (xs[i + d].1 - x.1) + b.num * (y.1 - xs[i + d].1) := by rw [← Int.mul_add]; congr 1; omega
    rw [eg, Int.add_mul, em, show i + (d + 1) + 1 = i + d + 1 + 1 by omega]
    omega
theorem gotS_bound {b : Bk} (h : b.Ok) {xs : List (Int × Int)} (hf : fine b xs = true) (i d : Nat) : 0 ≤ gotS (run b xs).1 xs i d ∧ gotS (run b xs).1 xs i d ≤ 1048576 * (d : Int) := by
  induction d with
  | zero => simp [gotS]
  | succ d ih =>
    have : 0 ≤ got (run b xs).1 xs (i + d) ∧ got (run b xs).1 xs (i + d) ≤ 1048576 := by
      cases hx : xs[i + d]? with
      | none => unfold got; rw [hx]; cases (run b xs).1[i + d]? with | none => simp | some v => cases v <;> simp
      | some x =>
        obtain ⟨_, _, _, _, _, _, _, _, _, _, h1, h2, _⟩ := step_one h hf hx
        exact ⟨h1, h2⟩
    simp only [gotS]
    omega
end Go.Proofs.Ytkcfhjbppnchoaa
