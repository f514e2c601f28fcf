/- Runs of shots that were green, plain. -/
import Derived.Test.YtnbjcahhmibmdaaMtMath
namespace Go.Proofs.Ytnbjcahhmibmdaa

def Mt.full (r b e : Int) : Mt := ⟨r, b, e, b, e, 0⟩
/-- One more shot: the colours so far, and the meter. -/
def shotAct (s : List Int × Mt) (x : Int × Int) : List Int × Mt := (s.1 ++ [(s.2.colour x.1 x.2 1).2.1], (s.2.colour x.1 x.2 1).1)
def run (b : Mt) (xs : List (Int × Int)) : List Int × Mt := xs.foldl shotAct ([], b)
theorem run_snoc (b : Mt) (xs : List (Int × Int)) (x : Int × Int) : run b (xs ++ [x]) = shotAct (run b xs) x := by simp [run]
theorem run_next {b : Mt} {xs : List (Int × Int)} {i : Nat} {x : Int × Int} (h : xs[i]? = some x) : run b (xs.take (i + 1)) = shotAct (run b (xs.take i)) x := by
  rw [List.take_add_one, h]
  exact run_snoc _ _ _
theorem run_length (b : Mt) (xs : List (Int × Int)) : (run b xs).1.length = xs.length := by
  have key : ∀ (s : List Int × Mt), (xs.foldl shotAct s).1.length = s.1.length + xs.length := by
    induction xs with
    | nil => intro s; rfl
    | cons x r ih => intro s; rw [List.foldl_cons, ih]; simp [shotAct]; omega
  simpa [run] using key ([], b)
/-- No shot is refused. -/
def fine (b : Mt) : List (Int × Int) → Bool
  | [] => true
  | x :: r => decide ((b.colour x.1 x.2 1).2.2 = 0) && fine (b.colour x.1 x.2 1).1 r
def played (r b e : Int) (xs : List (Int × Int)) : List Int × Mt × Int :=
  if (Mt.full r b e).right = true then
    if fine (Mt.full r b e) xs = true then ((run (Mt.full r b e) xs).1, (run (Mt.full r b e) xs).2, 0) else ([], Mt.zero, 2)
  else ([], Mt.zero, 2)
/-- A good shot at a good meter, or none. -/
structure Mt.Shot (b : Mt) (t n : Int) : Prop where
  t0 : b.tm ≤ t
  t1 : t ≤ 1099511627776
  n0 : 0 ≤ n
  n1 : n ≤ 1048576
theorem colour_ok {b : Mt} (h : b.Ok) (t n : Int) : (b.Shot t n ∧ b.colour t n 1 = (((b.fill t).mark n 1).1, ((b.fill t).mark n 1).2, 0) ∧ ((b.fill t).mark n 1).1.Ok) ∨ b.colour t n 1 = (Mt.zero, 0, 2) := by
  have hr := Mt.right_iff.2 h
  cases hj : btw t b.tm 1099511627776 with
  | false => exact .inr (Mt.colour_range hr (by decide) (.inl hj))
  | true =>
    cases hn : btw n 0 1048576 with
    | false => exact .inr (Mt.colour_range hr (by decide) (.inr hn))
    | true =>
      obtain ⟨t0, t1⟩ := btw_true.1 hj
      obtain ⟨n0, n1⟩ := btw_true.1 hn
      exact .inl ⟨⟨t0, t1, n0, n1⟩, Mt.colour_fine hr (by decide) hj hn, ((h.fill t0 t1).mark n0).1⟩
theorem run_from (s : List Int × Mt) (xs : List (Int × Int)) : xs.foldl shotAct s = (s.1 ++ (run s.2 xs).1, (run s.2 xs).2) := by
  induction xs generalizing s with
  | nil => simp [run]
  | cons x r ih =>
    rw [List.foldl_cons, ih]
    unfold run
    rw [List.foldl_cons, ih (shotAct ([], s.2) x)]
    simp [shotAct, run]
theorem run_cons (b : Mt) (x : Int × Int) (r : List (Int × Int)) : run b (x :: r) = ((b.colour x.1 x.2 1).2.1 :: (run (b.colour x.1 x.2 1).1 r).1, (run (b.colour x.1 x.2 1).1 r).2) := by
  unfold run
  rw [List.foldl_cons, run_from]
  simp [shotAct, run]
/-- As far as no shot is refused, the meter is as it must be. -/
theorem fine_ok {b : Mt} (h : b.Ok) {xs : List (Int × Int)} (hf : fine b xs = true) : (run b xs).2.Ok := by
  induction xs generalizing b with
  | nil => exact h
  | cons x r ih =>
    rw [fine, Bool.and_eq_true, decide_eq_true_iff] at hf
    rw [run_cons]
    rcases colour_ok h x.1 x.2 with k | k
    · rw [k.2.1] at hf ⊢
      exact ih k.2.2 hf.2
    · rw [k] at hf
      exact absurd hf.1 (by simp)
theorem fine_append (b : Mt) (xs ys : List (Int × Int)) : fine b (xs ++ ys) = (fine b xs && fine (run b xs).2 ys) := by
  induction xs generalizing b with
  | nil => rfl
  | cons x r ih => rw [List.cons_append, fine, fine, ih, run_cons, Bool.and_assoc]
theorem fine_next {b : Mt} {xs : List (Int × Int)} {i : Nat} {x : Int × Int} (h : xs[i]? = some x) (hf : fine b (xs.take i) = true) : fine b (xs.take (i + 1)) = decide (((run b (xs.take i)).2.colour x.1 x.2 1).2.2 = 0) := by
  rw [List.take_add_one, h]
  show fine b (xs.take i ++ [x]) = _
  rw [fine_append, hf]
  simp [fine]
theorem fine_stop {b : Mt} {xs : List (Int × Int)} {i : Nat} (h : fine b (xs.take i) = false) : fine b xs = false := by
  rw [← List.take_append_drop i xs, fine_append, h]
  rfl
end Go.Proofs.Ytnbjcahhmibmdaa
