/- Queues of flows, plain: what came, what was sent, what is left (for the laws of packages scfq, wfq, hier on order). -/
import Derived.Test.YtobkepipmmkboaaWd0
namespace Go.Proofs.Ytobkepipmmkboaa

/-- A flow's queue is another one from now on. -/
def putQ (q : Nat → List Int) (f : Nat) (l : List Int) (k : Nat) : List Int := if k = f then l else q k
theorem putQ_same (q : Nat → List Int) (f : Nat) (l : List Int) : putQ q f l f = l := if_pos rfl
theorem putQ_other (q : Nat → List Int) {f k : Nat} (l : List Int) (h : k ≠ f) : putQ q f l k = q k := if_neg h
/-- A row of operations (kind, flow, bytes), their errors, what is sent (flow, bytes): from queues to queues. -/
inductive Tr (n : Nat) : (Nat → List Int) → List (Int × Int × Int) → List Int → List (Nat × Int) → (Nat → List Int) → Prop
  | nil (q : Nat → List Int) : Tr n q [] [] [] q
  | bad {q q' : Nat → List Int} {k f b e : Int} {os : List (Int × Int × Int)} {es : List Int} {ss : List (Nat × Int)} (he : e ≠ 0) (hk : k = 2 → ∀ j, j < n → q j = []) (h : Tr n q os es ss q') : Tr n q ((k, f, b) :: os) (e :: es) ss q'
  | come {q q' : Nat → List Int} {f : Nat} {b : Int} {os : List (Int × Int × Int)} {es : List Int} {ss : List (Nat × Int)} (hf : f < n) (h : Tr n (putQ q f (q f ++ [b])) os es ss q') : Tr n q ((1, (f : Int), b) :: os) (0 :: es) ss q'
  | send {q q' : Nat → List Int} {f : Nat} {b x y : Int} {r : List Int} {os : List (Int × Int × Int)} {es : List Int} {ss : List (Nat × Int)} (hf : f < n) (hq : q f = b :: r) (h : Tr n (putQ q f r) os es ss q') : Tr n q ((2, x, y) :: os) (0 :: es) ((f, b) :: ss) q'
theorem Tr.length {n : Nat} {q q' : Nat → List Int} {os : List (Int × Int × Int)} {es : List Int} {ss : List (Nat × Int)} (h : Tr n q os es ss q') : es.length = os.length := by
  induction h with
  | nil => rfl
  | bad _ _ _ ih => simp [ih]
  | come _ _ ih => simp [ih]
  | send _ _ _ ih => simp [ih]
/-- What came of a flow. -/
def cameOf (f : Nat) : List (Int × Int × Int) → List Int → List Int
  | o :: os, e :: es => if e = 0 ∧ o.1 = 1 ∧ o.2.1 = (f : Int) then o.2.2 :: cameOf f os es else cameOf f os es
  | _, _ => []
/-- What was sent of a flow. -/
def sentOf (f : Nat) : List (Nat × Int) → List Int
  | [] => []
  | s :: ss => if s.1 = f then s.2 :: sentOf f ss else sentOf f ss
/-- What was there, and what came, is what was sent, and what is left. -/
theorem Tr.kept {n : Nat} {q q' : Nat → List Int} {os : List (Int × Int × Int)} {es : List Int} {ss : List (Nat × Int)} (h : Tr n q os es ss q') (f : Nat) : q f ++ cameOf f os es = sentOf f ss ++ q' f := by
  induction h with
  | nil => simp [cameOf, sentOf]
  | bad he _ _ ih =>
    rw [cameOf, if_neg (by intro hx; exact he hx.1)]
    exact ih
  | @come q q' g b os es ss hg _ ih =>
    rw [cameOf]
    by_cases c : g = f
    · subst c
      rw [putQ_same, List.append_assoc] at ih
      rw [if_pos ⟨rfl, rfl, rfl⟩]
      exact ih
    · rw [putQ_other _ _ (by omega)] at ih
      rw [if_neg (by intro hx; have := hx.2.2; dsimp only at this; omega)]
      exact ih
  | @send q q' g b x y r os es ss hg hq _ ih =>
    rw [cameOf, if_neg (by intro hx; have := hx.2.1; dsimp only at this; omega), sentOf]
    by_cases c : g = f
    · subst c
      rw [putQ_same] at ih
      rw [if_pos rfl, hq]
      show b :: (r ++ _) = b :: (_ ++ _)
      rw [ih]
    · rw [putQ_other _ _ (by omega)] at ih
      rw [if_neg c]
      exact ih
theorem Tr.flow_lt {n : Nat} {q q' : Nat → List Int} {os : List (Int × Int × Int)} {es : List Int} {ss : List (Nat × Int)} (h : Tr n q os es ss q') : ∀ s ∈ ss, s.1 < n := by
  induction h with
  | nil => intro s hs; cases hs
  | bad _ _ _ ih => exact ih
  | come _ _ ih => exact ih
  | send hf _ _ ih =>
    intro s hs
    rcases List.mem_cons.1 hs with rfl | hs
    · exact hf
    · exact ih s hs
/-- How many packets wait in all. -/
def waitQ (q : Nat → List Int) : Nat → Nat
  | 0 => 0
  | n + 1 => waitQ q n + (q n).length
theorem waitQ_put {q : Nat → List Int} {f : Nat} (l : List Int) : ∀ {n : Nat}, f < n → waitQ (putQ q f l) n + (q f).length = waitQ q n + l.length
  | 0, h => by omega
  | n + 1, h => by
    simp only [waitQ]
    by_cases c : f = n
    · subst c
      rw [putQ_same]
      have : ∀ m, m ≤ f → waitQ (putQ q f l) m = waitQ q m := by
        intro m
        induction m with
        | zero => intro _; rfl
        | succ m ih =>
          intro hm
          simp only [waitQ]
          rw [ih (by omega), putQ_other _ _ (by omega)]
      rw [this f (Nat.le_refl _)]
      omega
    · rw [putQ_other _ _ (by omega)]
      have := waitQ_put (q := q) l (n := n) (f := f) (by omega)
      omega
theorem waitQ_zero {q : Nat → List Int} : ∀ {n : Nat}, (∀ j, j < n → q j = []) → waitQ q n = 0
  | 0, _ => rfl
  | n + 1, h => by
    simp only [waitQ]
    rw [waitQ_zero fun j hj => h j (by omega), h n (by omega)]
    rfl
theorem waitQ_pos {q : Nat → List Int} {f : Nat} : ∀ {n : Nat}, f < n → q f ≠ [] → 0 < waitQ q n
  | 0, h, _ => by omega
  | n + 1, h, hq => by
    simp only [waitQ]
    by_cases c : f = n
    · subst c
      have := List.length_pos_iff.2 hq
      omega
    · have := waitQ_pos (n := n) (f := f) (by omega) hq
      omega
end Go.Proofs.Ytobkepipmmkboaa
