/- The reference's QuoRem where the divisor is greater: a contract. -/
import Derived.Test.YtemoleopabddnaaBig8
import Derived.Test.YtemoleopabddnaaBig11a
namespace Go.Proofs.Ytemoleopabddnaa
open Go.RowKit

/-- Only blocks a and b, and what is new, have turned. -/
structure Kept2 (w w' : World) (a b : Nat) : Prop where
  os : w'.os = w.os
  tape : w'.tape = w.tape
  output : w'.output = w.output
  size : w.heap.size ≤ w'.heap.size
  block : ∀ k, k < w.heap.size → k ≠ a → k ≠ b → w'.heap[k]? = w.heap[k]?
theorem Kept2.refl (w : World) (a b : Nat) : Kept2 w w a b := ⟨rfl, rfl, rfl, Nat.le_refl _, fun _ _ _ _ => rfl⟩
theorem Kept2.drewN {w w' : World} {a b : Nat} (h : Kept2 w w' a b) (n : Nat) : Kept2 w (w'.drewN n) a b := ⟨h.os, h.tape, h.output, h.size, h.block⟩
theorem Kept2.left {w v w' : World} {a b : Nat} (h : Kept2 w v a b) (g : v.grownBy w' (some a)) : Kept2 w w' a b :=
  ⟨g.os.trans h.os, g.tape.trans h.tape, g.output.trans h.output, Nat.le_trans h.size g.size, fun k hk h1 h2 => (g.block k (Nat.lt_of_lt_of_le hk h.size) (by simp [h1])).trans (h.block k hk h1 h2)⟩
theorem Kept2.right {w v w' : World} {a b : Nat} (h : Kept2 w v a b) (g : v.grownBy w' (some b)) : Kept2 w w' a b :=
  ⟨g.os.trans h.os, g.tape.trans h.tape, g.output.trans h.output, Nat.le_trans h.size g.size, fun k hk h1 h2 => (g.block k (Nat.lt_of_lt_of_le hk h.size) (by simp [h2])).trans (h.block k hk h1 h2)⟩
theorem Kept2.below {w v w' : World} {a b : Nat} (h : Kept2 w v a b) (g : Below v.heap.size v w') : Kept2 w w' a b :=
  ⟨g.os.trans h.os, g.tape.trans h.tape, g.output.trans h.output, Nat.le_trans h.size g.size, fun k hk h1 h2 => (g.block k (Nat.lt_of_lt_of_le hk h.size)).trans (h.block k hk h1 h2)⟩
theorem IntAt.kept2 {w w' : World} {g a b : Nat} {z : Int} (h : IntAt w g z) (ha : Room w a) (hb : Room w b) (k : Kept2 w w' a b) (n1 : g ≠ a) (n2 : g ≠ b) : IntAt w' g z := by
  obtain ⟨s, A, n, c, f, hr, h1, h2, hd, h3⟩ := h
  obtain ⟨_, ha⟩ := ha
  obtain ⟨_, hb⟩ := hb
  refine ⟨s, A, n, c, f, hr.of_block (k.block g hr.lt n1 n2), h1, h2, fun h0 => ?_, h3⟩
  obtain ⟨d, m, F, hA, hk, hw, hf⟩ := hd h0
  exact ⟨d, m, F, hA, hk, hw.of_block (k.block d hw.lt (row_ne hw ha (by decide)) (row_ne hw hb (by decide))), hf⟩

/-- QuoRem, where the divisor is the greater. -/
theorem quo_less (gz gx gy gr : Nat) (x y : Int) (w : World) (hz : Room w gz) (hr : Room w gr) (hx : IntAt w gx x) (hy : IntAt w gy y) (n1 : gx ≠ gr) (n2 : gz ≠ gr) (hlt : x.natAbs < y.natAbs) :
    Calls Try.prog 60 #[.pointer (some ⟨gz, 0, none⟩), .pointer (some ⟨gx, 0, none⟩), .pointer (some ⟨gy, 0, none⟩), .pointer (some ⟨gr, 0, none⟩)] w fun e w' =>
      e = .returned (.tuple #[.pointer (some ⟨gz, 0, none⟩), .pointer (some ⟨gr, 0, none⟩)]) ∧ Kept2 w w' gz gr ∧ IntAt w' gz 0 ∧ IntAt w' gr x := by
  have hc : cmpI (x.natAbs : Int) (y.natAbs : Int) = -1 := by unfold cmpI; rw [if_pos (by omega)]
  go_enter Try.func60, Try.ntmps60
  go_wp2_with fail
  refine (cmpAbs_any gx gy x y _ hx hy).mono ?_
  rintro e w1 ⟨rfl, k, rfl⟩
  rw [hc]
  go_wp2_with fail
  have h1 := hx.drewN k
  have h2 := hr.drewN k
  refine (set_int gr gx x _ n1 h2 h1).mono ?_
  rintro e w2 ⟨rfl, g2, i2⟩
  have hz2 := (hz.drewN k).only g2 n2
  go_wp2_with fail
  refine (setI_any gz 0 w2 hz2 (by decide)).mono ?_
  rintro e w3 ⟨rfl, g3, i3⟩
  go_wp2_with fail
  exact bodyPost_ret (v := .tuple #[.pointer (some ⟨gz, 0, none⟩), .pointer (some ⟨gr, 0, none⟩)]) (by simp [results, Try.results60, go_sem]) rfl
    ⟨rfl, (((Kept2.refl w gz gr).drewN k).right g2).left g3, i3, i2.only hz2 g3 (fun e => n2 e.symm)⟩

theorem IntAt.minus {w : World} {g : Nat} {z : Int} (h : IntAt w g z) (hz : z < 0) : w.cell? ⟨g, 0, none⟩ = some (.bool true) := by
  obtain ⟨s, A, n, c, f, hr, _, _, _, _, _, _, rfl⟩ := h
  cases s
  · simp [sg] at hz
    omega
  · exact hr.cell (by decide)
theorem IntAt.plus {w : World} {g : Nat} {z : Int} (h : IntAt w g z) (hz : 0 ≤ z) : w.cell? ⟨g, 0, none⟩ = some (.bool false) := by
  obtain ⟨X, rfl⟩ : ∃ X : Nat, z = X := ⟨z.toNat, by omega⟩
  obtain ⟨A, n, c, f, hg, _⟩ := h.nat
  exact hg.cell (by decide)
theorem Kept2.grow {w v w' : World} {a b : Nat} (h0 : Below w.heap.size w v) (h : Kept2 v w' a b) : Kept2 w w' a b :=
  ⟨h.os.trans h0.os, h.tape.trans h0.tape, h.output.trans h0.output, Nat.le_trans h0.size h.size, fun k hk h1 h2 => (h.block k (Nat.lt_of_lt_of_le hk h0.size) h1 h2).trans (h0.block k hk)⟩

end Go.Proofs.Ytemoleopabddnaa
