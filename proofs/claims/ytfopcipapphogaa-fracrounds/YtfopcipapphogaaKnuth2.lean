/- The division of digits: what stands in memory within a round of the great loop. -/
import Derived.Test.YtfopcipapphogaaKnuth
import Derived.Test.YtfopcipapphogaaBig12
namespace Go.Proofs.Ytfopcipapphogaa
open Go.RowKit

/-- The great loop of parts: what stands before a round. -/
structure PInv (w wr : World) (bu bv bo mu mv L n X V : Nat) (vf U O : Nat → Nat) (k : Nat) : Prop where
  rv : wr.rowIs bv 81 mv (fun j => .int .u32 (vf j))
  ru : wr.rowIs bu 81 mu (fun j => .int .u32 (U j))
  ro : wr.rowIs bo 81 L (fun j => .int .u32 (O j))
  su : Small L U
  so : Small L O
  ki : KInv X V n L U O k
  below : Below w.heap.size w wr
theorem PInv.drewN {w wr : World} {bu bv bo mu mv L n X V : Nat} {vf U O : Nat → Nat} {k : Nat} (I : PInv w wr bu bv bo mu mv L n X V vf U O k) (q : Nat) : PInv w (wr.drewN q) bu bv bo mu mv L n X V vf U O k :=
  ⟨I.rv, I.ru, I.ro, I.su, I.so, I.ki, ⟨I.below.os, I.below.tape, I.below.output, I.below.size, I.below.block⟩⟩

/-- Within a round: the dividend's digits are U' now, changed from j on and below j + i. -/
structure MMem (w wx : World) (bu bv bo mu mv L : Nat) (vf O U U' : Nat → Nat) (j i : Nat) : Prop where
  rv : wx.rowIs bv 81 mv (fun t => .int .u32 (vf t))
  ru : wx.rowIs bu 81 mu (fun t => .int .u32 (U' t))
  ro : wx.rowIs bo 81 L (fun t => .int .u32 (O t))
  su : Small L U'
  below : Below w.heap.size w wx
  lo : ∀ t, t < j → U' t = U t
  hi : ∀ t, j + i ≤ t → U' t = U t
theorem PInv.mem {w wr : World} {bu bv bo mu mv L n X V : Nat} {vf U O : Nat → Nat} {k : Nat} (I : PInv w wr bu bv bo mu mv L n X V vf U O k) (j : Nat) : MMem w wr bu bv bo mu mv L vf O U U j 0 :=
  ⟨I.rv, I.ru, I.ro, I.su, I.below, fun _ _ => rfl, fun _ _ => rfl⟩
theorem MMem.anew {w wx : World} {bu bv bo mu mv L : Nat} {vf O U U' : Nat → Nat} {j i : Nat} (I : MMem w wx bu bv bo mu mv L vf O U U' j i) : MMem w wx bu bv bo mu mv L vf O U' U' j 0 :=
  ⟨I.rv, I.ru, I.ro, I.su, I.below, fun _ _ => rfl, fun _ _ => rfl⟩
/-- A digit is written. -/
theorem MMem.put {w wx : World} {bu bv bo mu mv L : Nat} {vf O U U' : Nat → Nat} {j i : Nat} (I : MMem w wx bu bv bo mu mv L vf O U U' j i) (D : Nat) {Z : Int} (hZ : Z = D) (hD : D < 4294967296) (n1 : ¬ bv = bu) (n2 : ¬ bu = bo) (hbu : w.heap.size ≤ bu) :
    MMem w (wx.setCell ⟨bu, j + i, none⟩ (.int .u32 Z)) bu bv bo mu mv L vf O U (fun t => if t = j + i then D else U' t) j (i + 1) := by
  refine ⟨I.rv.setOther n1 _, row_put I.ru (j + i) D hZ, I.ro.setOther (fun e => n2 e.symm) _, ?_, I.below.setCell hbu _, ?_, ?_⟩
  · intro t ht
    dsimp only
    split
    · exact hD
    · exact I.su t ht
  · intro t ht
    rw [if_neg (by omega)]
    exact I.lo t ht
  · intro t ht
    rw [if_neg (by omega)]
    exact I.hi t (by omega)
theorem val_from_put {i j D : Nat} {U' : Nat → Nat} : val (i + 1) (from_ j (fun t => if t = j + i then D else U' t)) = val i (from_ j U') + D * 4294967296 ^ i := by
  simp only [val, from_, if_true]
  congr 1
  refine val_congr fun t ht => ?_
  simp only [from_]
  rw [if_neg (by omega)]

/-- A digit of the difference, as the machine reckons it. -/
theorem sub_digit {u low b : Nat} (hu : u < 4294967296) (hl : low < 4294967296) (hb : b ≤ 1) : ∃ w1 w2 D b' : Nat, IntKind.u64.wrap ((u : Int) - (low : Int)) = (w1 : Int) ∧ IntKind.u64.wrap ((w1 : Int) - (b : Int)) = (w2 : Int) ∧ IntKind.u32.wrap (w2 : Int) = (D : Int) ∧ (w2 : Int) / 9223372036854775808 = (b' : Int) ∧ D < 4294967296 ∧ b' ≤ 1 ∧ D + low + b = u + b' * 4294967296 := by
  simp only [IntKind.wrap_u64, IntKind.wrap_u32]
  by_cases h : low + b ≤ u
  · exact ⟨u - low, u - low - b, u - low - b, 0, by omega, by omega, by omega, by omega, by omega, by omega, by omega⟩
  · by_cases h2 : low ≤ u
    · exact ⟨0, 18446744073709551615, 4294967295, 1, by omega, by omega, by omega, by omega, by omega, by omega, by omega⟩
    · exact ⟨u + 18446744073709551616 - low, u + 18446744073709551616 - low - b, u + 4294967296 - low - b, 1, by omega, by omega, by omega, by omega, by omega, by omega, by omega⟩
theorem mul_digit {Q a c : Nat} (hQ : Q < 4294967296) (ha : a < 4294967296) (hc : c < 4294967296) : c + Q * a < 18446744073709551616 ∧ Q * a < 18446744073709551616 ∧ (c + Q * a) / 4294967296 < 4294967296 := by
  have m := Nat.mul_le_mul (show Q ≤ 4294967295 by omega) (show a ≤ 4294967295 by omega)
  omega

/-- Less q times the divisor: so far. -/
structure MS (w wx : World) (bu bv bo mu mv L : Nat) (vf O U U' : Nat → Nat) (j Q i c b : Nat) : Prop where
  mem : MMem w wx bu bv bo mu mv L vf O U U' j i
  c1 : c < 4294967296
  b1 : b ≤ 1
  eq : val i (from_ j U') + Q * val i vf = val i (from_ j U) + (c + b) * 4294967296 ^ i
theorem PInv.ms {w wr : World} {bu bv bo mu mv L n X V : Nat} {vf U O : Nat → Nat} {k : Nat} (I : PInv w wr bu bv bo mu mv L n X V vf U O k) (j Q : Nat) : MS w wr bu bv bo mu mv L vf O U U j Q 0 0 0 :=
  ⟨I.mem j, by decide, by decide, by simp [val]⟩
theorem MS.put {w wx : World} {bu bv bo mu mv L : Nat} {vf O U U' : Nat → Nat} {j Q i c b : Nat} (I : MS w wx bu bv bo mu mv L vf O U U' j Q i c b) (n1 : ¬ bv = bu) (n2 : ¬ bu = bo) (hbu : w.heap.size ≤ bu)
    {D low c' b' : Nat} {Z : Int} (hZ : Z = D) (hD : D < 4294967296) (hc : c' < 4294967296) (hb : b' ≤ 1) (ht : c + Q * vf i = low + c' * 4294967296) (hd : D + low + b = U' (j + i) + b' * 4294967296) :
    MS w (wx.setCell ⟨bu, j + i, none⟩ (.int .u32 Z)) bu bv bo mu mv L vf O U (fun t => if t = j + i then D else U' t) j Q (i + 1) c' b' := by
  refine ⟨I.mem.put D hZ hD n1 n2 hbu, hc, hb, ?_⟩
  rw [I.mem.hi (j + i) (by omega)] at hd
  have h := ms_step (P := 4294967296 ^ i) I.eq ht hd
  rw [val_from_put]
  simp only [val, from_, Nat.pow_succ] at h ⊢
  exact h

/-- Adding the divisor back: so far. -/
structure AB (w wx : World) (bu bv bo mu mv L : Nat) (vf O U U' : Nat → Nat) (j i c : Nat) : Prop where
  mem : MMem w wx bu bv bo mu mv L vf O U U' j i
  c1 : c ≤ 1
  eq : val i (from_ j U') + c * 4294967296 ^ i = val i (from_ j U) + val i vf
theorem MMem.ab {w wx : World} {bu bv bo mu mv L : Nat} {vf O U U' : Nat → Nat} {j i : Nat} (I : MMem w wx bu bv bo mu mv L vf O U U' j i) : AB w wx bu bv bo mu mv L vf O U' U' j 0 0 :=
  ⟨I.anew, by decide, by simp [val]⟩
theorem AB.put {w wx : World} {bu bv bo mu mv L : Nat} {vf O U U' : Nat → Nat} {j i c : Nat} (I : AB w wx bu bv bo mu mv L vf O U U' j i c) (n1 : ¬ bv = bu) (n2 : ¬ bu = bo) (hbu : w.heap.size ≤ bu)
    {D c' : Nat} {Z : Int} (hZ : Z = D) (hD : D < 4294967296) (hc : c' ≤ 1) (hd : D + c' * 4294967296 = c + (U' (j + i) + vf i)) :
    AB w (wx.setCell ⟨bu, j + i, none⟩ (.int .u32 Z)) bu bv bo mu mv L vf O U (fun t => if t = j + i then D else U' t) j (i + 1) c' := by
  refine ⟨I.mem.put D hZ hD n1 n2 hbu, hc, ?_⟩
  rw [I.mem.hi (j + i) (by omega)] at hd
  rw [val_from_put]
  have h1 := congrArg (· * 4294967296 ^ i) hd
  have e := I.eq
  simp only [Nat.add_mul] at h1
  simp only [val, Nat.pow_succ]
  rw [Nat.mul_comm (4294967296 ^ i) 4294967296, ← Nat.mul_assoc]
  simp only [from_] at e ⊢
  omega

/-- The round's end: the guess was right, or one too much and mended. -/
theorem PInv.next {w wr wx : World} {bu bv bo mu mv n X V L : Nat} {vf U U' O : Nat → Nat} {j i : Nat} (I : PInv w wr bu bv bo mu mv L n X V vf U O (j + 1)) (hj : j < L) (M : MMem w wx bu bv bo mu mv L vf O U U' j i) (q : Nat) {Z : Int} (hZ : Z = q) (hq : q < 4294967296)
    (n2 : ¬ bv = bo) (n3 : ¬ bu = bo) (hbo : w.heap.size ≤ bo) (hw : val (n + 1) (from_ j U) = q * V + val n (from_ j U')) (hr : val n (from_ j U') < V) :
    PInv w (wx.setCell ⟨bo, j, none⟩ (.int .u32 Z)) bu bv bo mu mv L n X V vf U' (fun t => if t = j then q else O t) j := by
  refine ⟨M.rv.setOther n2 _, M.ru.setOther n3 _, row_put M.ro j q hZ, M.su, ?_, I.ki.next hj hw hr M.lo, M.below.setCell hbo _⟩
  intro t ht
  dsimp only
  split
  · exact hq
  · exact I.so t ht
end Go.Proofs.Ytfopcipapphogaa
