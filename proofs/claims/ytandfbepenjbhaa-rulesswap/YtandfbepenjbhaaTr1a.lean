/- Contracts of package trie: number, validBits. -/
import Derived.Test.YtandfbepenjbhaaTrMath
import Derived.WalkKit
import Derived.WalkSpells
import Derived.StillTactics
import Derived.Laws.BitsLemmas
import Derived.Below
import Derived.Deep.QuietTactic
import Derived.BigQuiet
import Derived.Lib.Hide
import Derived.RowKit3
import Derived.Deep.LoopGhost
namespace Go.Proofs.Ytandfbepenjbhaa
open Go.RowKit

theorem ret_int {k : IntKind} {a b : Int} (h : a = b) : Ending.returned (.int k a) = .returned (.int k b) := by rw [h]
theorem ret_bool {a b : Bool} (h : a = b) : Ending.returned (.bool a) = .returned (.bool b) := by rw [h]
theorem below_drewN {B : Nat} {a w : World} (h : Below B a w) (n : Nat) : Below B a (w.drewN n) := ⟨h.os, h.tape, h.output, h.size, h.block⟩
theorem wraps_u32 (n : Int) (h₀ : 0 ≤ n) (h₁ : n < 2 ^ 32) : IntKind.u32.wrap n = n := by
  simp [IntKind.wrap, IntKind.bits, IntKind.signed]
  omega
def Ad.cells (a : Ad) : List Value := [.int .u8 a.a0, .int .u8 a.a1, .int .u8 a.a2, .int .u8 a.a3]
def Pf.cells (p : Pf) : List Value := [.int .u8 p.ad.a0, .int .u8 p.ad.a1, .int .u8 p.ad.a2, .int .u8 p.ad.a3, .int .i64 p.bits, .int .i64 p.led]

set_option maxHeartbeats 1000000 in
theorem number_any (a : Ad) (ha : a.Ok) (w : World) :
    Calls Try.prog 36 #[.agg a.cells.toArray] w fun e w' => e = .returned (.int .u32 (a.num : Int)) ∧ w' = w.alloc (.cells a.cells.toArray 23) := by
  obtain ⟨a0, a1, a2, a3⟩ := a
  obtain ⟨⟨p0, q0⟩, ⟨p1, q1⟩, ⟨p2, q2⟩, p3, q3⟩ := ha
  have HN : Hid (((Ad.mk a0 a1 a2 a3).num : Int) = a0 * 16777216 + a1 * 65536 + a2 * 256 + a3) := Lib.hid (by simp only [Ad.num] at *; omega)
  generalize ((Ad.mk a0 a1 a2 a3).num : Int) = N at *
  unfold Ad.cells
  dsimp only at p0 q0 p1 q1 p2 q2 p3 q3 ⊢
  have j1 : bits .or .u32 (a0 * 16777216) (a1 * 65536) = a0 * 16777216 + a1 * 65536 := bits_join .u32 32 (by decide) wraps_u32 24 (a0 * 16777216) (a1 * 65536) (by omega) (by omega) (by omega) (by omega) (by omega) (by omega)
  have j2 : bits .or .u32 (a0 * 16777216 + a1 * 65536) (a2 * 256) = a0 * 16777216 + a1 * 65536 + a2 * 256 := bits_join .u32 32 (by decide) wraps_u32 16 (a0 * 16777216 + a1 * 65536) (a2 * 256) (by omega) (by omega) (by omega) (by omega) (by omega) (by omega)
  have j3 : bits .or .u32 (a0 * 16777216 + a1 * 65536 + a2 * 256) a3 = a0 * 16777216 + a1 * 65536 + a2 * 256 + a3 := bits_join .u32 32 (by decide) wraps_u32 8 (a0 * 16777216 + a1 * 65536 + a2 * 256) a3 (by omega) (by omega) (by omega) (by omega) (by omega) (by omega)
  go_enter Try.func36, Try.ntmps36
  go_wp2
  go_ret
  exact ⟨ret_int (by rw [HN.out]), rfl⟩

theorem number_b (a : Ad) (ha : a.Ok) (w : World) : Calls Try.prog 36 #[.agg a.cells.toArray] w fun e w' => e = .returned (.int .u32 (a.num : Int)) ∧ Below w.heap.size w w' := by
  refine (number_any a ha w).mono ?_
  rintro e w1 ⟨rfl, rfl⟩
  exact ⟨rfl, (Below.refl _ _).alloc (Nat.le_refl _) _⟩
set_option maxHeartbeats 1000000 in
theorem validBits_any (p : Pf) (w : World) :
    Calls Try.prog 35 #[.agg p.cells.toArray] w fun e w' => e = .returned (.bool (decide (0 ≤ p.bits ∧ p.bits ≤ 32))) ∧ w' = w.alloc (.cells p.cells.toArray 51) := by
  obtain ⟨⟨a0, a1, a2, a3⟩, b, t⟩ := p
  unfold Pf.cells
  dsimp only
  by_cases c : 0 ≤ b
  · go_enter Try.func35, Try.ntmps35
    go_wp2
    go_ret
    exact ⟨ret_bool (by simp [c]), rfl⟩
  · go_enter Try.func35, Try.ntmps35
    go_wp2
    go_ret
    exact ⟨ret_bool (by simp; omega), rfl⟩
theorem validBits_b (p : Pf) (w : World) : Calls Try.prog 35 #[.agg p.cells.toArray] w fun e w' => e = .returned (.bool (decide (0 ≤ p.bits ∧ p.bits ≤ 32))) ∧ Below w.heap.size w w' := by
  refine (validBits_any p w).mono ?_
  rintro e w1 ⟨rfl, rfl⟩
  exact ⟨rfl, (Below.refl _ _).alloc (Nat.le_refl _) _⟩
end Go.Proofs.Ytandfbepenjbhaa
