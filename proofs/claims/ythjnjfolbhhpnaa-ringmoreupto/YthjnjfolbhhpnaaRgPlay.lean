/- Drop-tail queues, plain: a list of operations. -/
import Derived.Test.YthjnjfolbhhpnaaRgMath
namespace Go.Proofs.Ythjnjfolbhhpnaa

def play1 (s : Qu × List Int) (o : Int × Int) : Qu × List Int := ((s.1.act o.1 o.2).1, if (s.1.act o.1 o.2).2.2 = 0 ∧ o.1 = 2 then s.2 ++ [(s.1.act o.1 o.2).2.1] else s.2)
def Qu.start (most mb : Int) : Qu := ⟨[], most, mb, 0⟩
/-- Where one is behind the first i operations. -/
def plays (most mb : Int) (ops : List (Int × Int)) : Qu × List Int := ops.foldl play1 (Qu.start most mb, [])
def played (most mb : Int) (ops : List (Int × Int)) : List Int × Qu × Int := if (Qu.start most mb).right = true then ((plays most mb ops).2, (plays most mb ops).1, 0) else ([], Qu.zero, 2)
theorem take_snocP {xs : List (Int × Int)} {i : Nat} {x : Int × Int} (h : xs[i]? = some x) : xs.take (i + 1) = xs.take i ++ [x] := by
  rw [List.take_add_one, h]; rfl
theorem plays_snoc {most mb : Int} {ops : List (Int × Int)} {i : Nat} {o : Int × Int} (h : ops[i]? = some o) : plays most mb (ops.take (i + 1)) = play1 (plays most mb (ops.take i)) o := by
  rw [take_snocP h]
  unfold plays
  rw [List.foldl_append]; rfl
theorem play1_len (s : Qu × List Int) (o : Int × Int) : (play1 s o).2.length ≤ s.2.length + 1 := by
  unfold play1
  dsimp only
  split <;> simp
theorem foldl_len (ops : List (Int × Int)) (s : Qu × List Int) : (ops.foldl play1 s).2.length ≤ s.2.length + ops.length := by
  induction ops generalizing s with
  | nil => simp
  | cons o r ih =>
    rw [List.foldl_cons, List.length_cons]
    have := ih (play1 s o)
    have := play1_len s o
    omega
theorem plays_len (most mb : Int) (ops : List (Int × Int)) : (plays most mb ops).2.length ≤ ops.length := by
  have := foldl_len ops (Qu.start most mb, [])
  unfold plays
  simpa using this
theorem foldl_ok (ops : List (Int × Int)) (s : Qu × List Int) (h : s.1.Ok) : (ops.foldl play1 s).1.Ok := by
  induction ops generalizing s with
  | nil => exact h
  | cons o r ih => exact ih _ (h.act o.1 o.2)
theorem plays_ok {most mb : Int} (h : (Qu.start most mb).right = true) (ops : List (Int × Int)) : (plays most mb ops).1.Ok := foldl_ok ops _ (Qu.right_iff.1 h)
theorem act_err {q : Qu} {k n : Int} (h : (q.act k n).2.2 ≠ 0) : (q.act k n).1 = q := by
  unfold Qu.act Qu.put Qu.get at *
  split
  · rw [if_pos ‹_›] at h
    split
    · rfl
    · rw [if_neg ‹_›] at h
      split
      · rw [if_pos ‹_›] at h; exact absurd rfl h
      · rw [if_neg ‹_›] at h
        split
        · rfl
        · rw [if_neg ‹_›] at h; exact absurd rfl h
  · rw [if_neg ‹_›] at h
    split
    · rw [if_pos ‹_›] at h
      split
      · rfl
      · rename_i he
        rw [he] at h
        exact absurd rfl h
    · rfl
end Go.Proofs.Ythjnjfolbhhpnaa
