/- Runs of shots, plain. -/
import Derived.Test.YtkcfhjbppnchoaaBk6
namespace Go.Proofs.Ytkcfhjbppnchoaa
open Go.RowKit

/-- One more shot: what was taken so far, and the bucket. -/
def shotAct (s : List Bool × Bk) (x : Int × Int) : List Bool × Bk := (s.1 ++ [(s.2.take x.1 x.2).2.1], (s.2.take x.1 x.2).1)
def run (b : Bk) (xs : List (Int × Int)) : List Bool × Bk := xs.foldl shotAct ([], b)
theorem run_snoc (b : Bk) (xs : List (Int × Int)) (x : Int × Int) : run b (xs ++ [x]) = shotAct (run b xs) x := by simp [run]
theorem run_next {b : Bk} {xs : List (Int × Int)} {i : Nat} {x : Int × Int} (h : xs[i]? = some x) : run b (xs.take (i + 1)) = shotAct (run b (xs.take i)) x := by
  rw [List.take_add_one, h]
  exact run_snoc _ _ _
theorem run_length (b : Bk) (xs : List (Int × Int)) : (run b xs).1.length = xs.length := by
  have key : ∀ (s : List Bool × Bk), (xs.foldl shotAct s).1.length = s.1.length + xs.length := by
    induction xs with
    | nil => intro s; rfl
    | cons x r ih => intro s; rw [List.foldl_cons, ih]; simp [shotAct]; omega
  simpa [run] using key ([], b)
/-- No shot's take says no. -/
def fine (b : Bk) : List (Int × Int) → Bool
  | [] => true
  | x :: r => decide ((b.take x.1 x.2).2.2 = 0) && fine (b.take x.1 x.2).1 r
def played (num den burst : Int) (xs : List (Int × Int)) : List Bool × Bk × Int :=
  if rate num den burst = true then
    if srt xs = true then
      if fine (Bk.full num den burst) xs = true then ((run (Bk.full num den burst) xs).1, (run (Bk.full num den burst) xs).2, 0) else ([], Bk.zero, 2)
    else ([], Bk.zero, 1)
  else ([], Bk.zero, 2)
theorem take_ok {b : Bk} (h : b.Ok) (t n : Int) : ((b.take t n).2.2 = 0 ∧ (b.take t n).1.Ok ∧ b.tm ≤ t ∧ t ≤ 1099511627776 ∧ 0 ≤ n ∧ n ≤ 1048576 ∧ b.take t n = ((b.shoot t n).1, (b.shoot t n).2, 0)) ∨ ((b.take t n) = (Bk.zero, false, 2) ∧ (btw t b.tm 1099511627776 = false ∨ btw n 0 1048576 = false)) := by
  unfold Bk.take
  rw [if_pos (Bk.right_iff.2 h)]
  cases hj : btw t b.tm 1099511627776 with
  | false => exact .inr ⟨rfl, .inl rfl⟩
  | true =>
    cases hn : btw n 0 1048576 with
    | false => exact .inr ⟨rfl, .inr rfl⟩
    | true =>
      obtain ⟨t0, t1⟩ := btw_true.1 hj
      obtain ⟨n0, n1⟩ := btw_true.1 hn
      exact .inl ⟨rfl, (h.shoot t0 t1 n0 n1).1, t0, t1, n0, n1, rfl⟩
theorem run_from (s : List Bool × Bk) (xs : List (Int × Int)) : xs.foldl shotAct s = (s.1 ++ (run s.2 xs).1, (run s.2 xs).2) := by
  induction xs generalizing s with
  | nil => simp [run]
  | cons x r ih =>
    rw [List.foldl_cons, ih]
    unfold run
    rw [List.foldl_cons, ih (shotAct ([], s.2) x)]
    simp [shotAct, run]
theorem run_cons (b : Bk) (x : Int × Int) (r : List (Int × Int)) : run b (x :: r) = ((b.take x.1 x.2).2.1 :: (run (b.take x.1 x.2).1 r).1, (run (b.take x.1 x.2).1 r).2) := by
  unfold run
  rw [List.foldl_cons, run_from]
  simp [shotAct, run]
/-- As far as all is fine, the bucket is as it must be; and the next shot says whether it goes on. -/
theorem fine_ok {b : Bk} (h : b.Ok) {xs : List (Int × Int)} (hf : fine b xs = true) : (run b xs).2.Ok := by
  induction xs generalizing b with
  | nil => exact h
  | cons x r ih =>
    rw [fine, Bool.and_eq_true, decide_eq_true_iff] at hf
    rw [run_cons]
    rcases take_ok h x.1 x.2 with k | k
    · exact ih k.2.1 hf.2
    · rw [k.1] at hf
      exact absurd hf.1 (by simp)
theorem fine_append (b : Bk) (xs ys : List (Int × Int)) : fine b (xs ++ ys) = (fine b xs && fine (run b xs).2 ys) := by
  induction xs generalizing b with
  | nil => rfl
  | cons x r ih => rw [List.cons_append, fine, fine, ih, run_cons, Bool.and_assoc]
theorem fine_next {b : Bk} {xs : List (Int × Int)} {i : Nat} {x : Int × Int} (h : xs[i]? = some x) (hf : fine b (xs.take i) = true) : fine b (xs.take (i + 1)) = decide (((run b (xs.take i)).2.take x.1 x.2).2.2 = 0) := by
  rw [List.take_add_one, h]
  show fine b (xs.take i ++ [x]) = _
  rw [fine_append, hf]
  simp [fine]
theorem fine_stop {b : Bk} {xs : List (Int × Int)} {i : Nat} (h : fine b (xs.take i) = false) : fine b xs = false := by
  rw [← List.take_append_drop i xs, fine_append, h]
  rfl
end Go.Proofs.Ytkcfhjbppnchoaa
