/- The reference for package rules: the first bits of an address. -/
import Derived.Test.YtandfbepenjbhaaRu2
import Derived.Test.YtandfbepenjbhaaTrF1a
namespace Go.Proofs.Ytandfbepenjbhaa
open Go.RowKit Go.Maps

theorem fBits_int (a : Ad) (ha : a.Ok) (n : Int) (h0 : 0 ≤ n) (h1 : n ≤ 32) (w : World) :
    Calls Try.prog 31 #[.agg #[.int .u8 a.a0, .int .u8 a.a1, .int .u8 a.a2, .int .u8 a.a3], .int .i64 n] w fun e w' => e = .returned (.int .i64 (fb a.num n.toNat)) ∧ Below w.heap.size w w' := by
  have := fBits_any a ha n.toNat (by omega) w
  rwa [Int.toNat_of_nonneg h0] at this
theorem fb_in (x : Nat) (p : Pf) (h0 : 0 ≤ p.bits) (h1 : p.bits ≤ 32) : (fb p.n p.bits.toNat == fb x p.bits.toNat) = inB x p := by
  by_cases c : top x p.b = top p.n p.b
  · rw [inB_true ⟨⟨h0, h1⟩, c⟩, beq_iff_eq]
    exact fb_eq.2 c.symm
  · rw [inB_false (fun h => c h.2), beq_eq_false_iff_ne]
    exact fun h => c (fb_eq.1 h).symm
end Go.Proofs.Ytandfbepenjbhaa
