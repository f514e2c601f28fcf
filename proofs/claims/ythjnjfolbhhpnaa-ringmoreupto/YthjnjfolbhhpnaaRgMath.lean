/- Drop-tail queues, plain: what is valid, and what an operation does. -/
import Derived.Test.YthjnjfolbhhpnaaProg
namespace Go.Proofs.Ythjnjfolbhhpnaa

def btw (n l h : Int) : Bool := decide (l ≤ n) && decide (n ≤ h)
def bad (x : Int) : Bool := !btw x 1 1500
def tot : List Int → Int
  | [] => 0
  | x :: r => x + tot r
theorem tot_append (a b : List Int) : tot (a ++ b) = tot a + tot b := by
  induction a with
  | nil => simp [tot]
  | cons x r ih => rw [List.cons_append, tot, tot, ih]; omega
structure Qu where
  has : List Int
  most : Int
  mb : Int
  dr : Int
def Qu.zero : Qu := ⟨[], 0, 0, 0⟩
def Qu.right (q : Qu) : Bool := btw q.most 0 400 && (btw q.mb 0 1073741824 && (btw q.dr 0 1099511627776 && (decide ((q.has.length : Int) ≤ q.most) && (!q.has.any bad && decide (tot q.has ≤ q.mb)))))
def Qu.fits (q : Qu) (n : Int) : Bool := decide ((q.has.length : Int) < q.most) && decide (tot q.has + n ≤ q.mb)
/-- An operation: the new queue, the number, the error. -/
def Qu.put (q : Qu) (n : Int) : Qu × Int × Int :=
  if bad n = true then (q, 0, 2)
  else if q.fits n = true then ({ q with has := q.has ++ [n] }, 1, 0)
  else if q.dr = 1099511627776 then (q, 0, 4)
  else ({ q with dr := q.dr + 1 }, 0, 0)
def Qu.get (q : Qu) : Qu × Int × Int :=
  match q.has with
  | [] => (q, 0, 3)
  | x :: r => ({ q with has := r }, x, 0)
def Qu.act (q : Qu) (k n : Int) : Qu × Int × Int := if k = 1 then q.put n else if k = 2 then q.get else (q, 0, 5)
theorem bad_false {x : Int} : bad x = false ↔ 1 ≤ x ∧ x ≤ 1500 := by simp [bad, btw]
theorem tot_pos {xs : List Int} (h : xs.any bad = false) : (xs.length : Int) ≤ tot xs ∧ tot xs ≤ 1500 * (xs.length : Int) := by
  induction xs with
  | nil => simp [tot]
  | cons x r ih =>
    rw [List.any_cons, Bool.or_eq_false_iff] at h
    have := bad_false.1 h.1
    have := ih h.2
    rw [tot, List.length_cons]
    omega
structure Qu.Ok (q : Qu) : Prop where
  most : 0 ≤ q.most ∧ q.most ≤ 400
  mb : 0 ≤ q.mb ∧ q.mb ≤ 1073741824
  dr : 0 ≤ q.dr ∧ q.dr ≤ 1099511627776
  len : (q.has.length : Int) ≤ q.most
  sizes : q.has.any bad = false
  tot : tot q.has ≤ q.mb
theorem Qu.right_iff {q : Qu} : q.right = true ↔ q.Ok := by
  unfold Qu.right btw
  simp only [Bool.and_eq_true, decide_eq_true_iff, Bool.not_eq_true']
  exact ⟨fun ⟨a, b, c, d, e, f⟩ => ⟨a, b, c, d, e, f⟩, fun h => ⟨h.most, h.mb, h.dr, h.len, h.sizes, h.tot⟩⟩
theorem Qu.Ok.put {q : Qu} (h : q.Ok) (n : Int) : (q.put n).1.Ok := by
  unfold Qu.put
  split
  · exact h
  · rename_i hb
    split
    · rename_i hf
      unfold Qu.fits at hf
      simp only [Bool.and_eq_true, decide_eq_true_iff] at hf
      refine ⟨h.most, h.mb, h.dr, by simp; omega, ?_, ?_⟩
      · rw [List.any_append, h.sizes]
        simpa using hb
      · show Proofs.Ythjnjfolbhhpnaa.tot (q.has ++ [n]) ≤ q.mb
        rw [tot_append]
        simp only [Proofs.Ythjnjfolbhhpnaa.tot]
        omega
    · split
      · exact h
      · rename_i hd
        exact ⟨h.most, h.mb, by have := h.dr; constructor <;> (show _ ≤ _; simp only; omega), h.len, h.sizes, h.tot⟩
theorem Qu.Ok.get {q : Qu} (h : q.Ok) : (q.get).1.Ok := by
  obtain ⟨xs, m, mb, dr⟩ := q
  cases xs with
  | nil => exact h
  | cons x r =>
    have h1 := h.sizes
    have h2 := h.tot
    have h3 := h.len
    simp only [List.any_cons, Bool.or_eq_false_iff, List.length_cons, Proofs.Ythjnjfolbhhpnaa.tot] at h1 h2 h3
    have := bad_false.1 h1.1
    exact ⟨h.most, h.mb, h.dr, by show (r.length : Int) ≤ m; omega, h1.2, by show Proofs.Ythjnjfolbhhpnaa.tot r ≤ mb; omega⟩
theorem Qu.Ok.act {q : Qu} (h : q.Ok) (k n : Int) : (q.act k n).1.Ok := by
  unfold Qu.act
  split
  · exact h.put n
  · split
    · exact h.get
    · exact h
theorem Qu.Ok.small {q : Qu} (h : q.Ok) : q.has.length ≤ 400 := by
  have := h.len
  have := h.most
  omega
end Go.Proofs.Ythjnjfolbhhpnaa
