/- WideAdds of package weirhouselaw: the numbers behind its walk. -/
import Derived.Test.YtfopcipapphogaaAdds2
namespace Go.Proofs.Ytfopcipapphogaa
open Go.RowKit

namespace Adds
def num (h l : Nat) : Nat := h * 18446744073709551616 + l
theorem sum_hi (ah al bh bl : Nat) (_h2 : al < 18446744073709551616) (_h4 : bl < 18446744073709551616) :
    sH ah al bh bl = ((m128 ((num ah al : Int) + num bh bl) / 18446744073709551616 : Nat) : Int) := by
  unfold sH m128 num
  omega
theorem sum_lo (ah al bh bl : Nat) : sL al bl = ((m128 ((num ah al : Int) + num bh bl) % 18446744073709551616 : Nat) : Int) := by
  unfold sL m128 num
  omega
theorem cmp_ne {x y : Int} : (cmpI x y != 0) = (x != y) := by
  unfold cmpI
  by_cases h : x = y
  · subst h; simp
  · have : (x != y) = true := by simpa using h
    rw [this]
    split
    · rfl
    · rw [if_pos (by omega)]; rfl
theorem sum_over (ah al bh bl : Nat) (_h1 : ah < 18446744073709551616) (_h2 : al < 18446744073709551616) (_h3 : bh < 18446744073709551616) (_h4 : bl < 18446744073709551616) :
    sC ah al bh bl = (cmpI (m128 ((num ah al : Int) + num bh bl)) ((num ah al : Int) + num bh bl) != 0) := by
  rw [cmp_ne]
  unfold sC
  have e : ((ah : Int) + bh + ((al : Int) + bl) / 18446744073709551616) / 18446744073709551616 = 0 ↔ (m128 ((num ah al : Int) + num bh bl) : Int) = (num ah al : Int) + num bh bl := by
    unfold m128 num
    omega
  by_cases h : ((ah : Int) + bh + ((al : Int) + bl) / 18446744073709551616) / 18446744073709551616 = 0
  · rw [e.1 h, h]; simp
  · have k : ¬ (m128 ((num ah al : Int) + num bh bl) : Int) = (num ah al : Int) + num bh bl := fun c => h (e.2 c)
    rw [show ((m128 ((num ah al : Int) + num bh bl) : Int) != (num ah al : Int) + num bh bl) = true from by simpa using k]
    simpa using h
theorem dif_hi (ah al bh bl : Nat) (h2 : al < 18446744073709551616) (h4 : bl < 18446744073709551616) :
    dH ah al bh bl = ((m128 ((num ah al : Int) - num bh bl) / 18446744073709551616 : Nat) : Int) := by
  unfold dH m128 num bor
  split <;> omega
theorem dif_lo (ah al bh bl : Nat) : dL al bl = ((m128 ((num ah al : Int) - num bh bl) % 18446744073709551616 : Nat) : Int) := by
  unfold dL m128 num
  omega
theorem dif_under (ah al bh bl : Nat) (h1 : ah < 18446744073709551616) (h2 : al < 18446744073709551616) (h3 : bh < 18446744073709551616) (h4 : bl < 18446744073709551616) :
    dB ah al bh bl = (cmpI (m128 ((num ah al : Int) - num bh bl)) ((num ah al : Int) - num bh bl) != 0) := by
  rw [cmp_ne]
  unfold dB
  have e : bor (ah : Int) ((bh : Int) + bor al bl) = 0 ↔ (m128 ((num ah al : Int) - num bh bl) : Int) = (num ah al : Int) - num bh bl := by
    unfold m128 num bor
    split <;> split <;> omega
  by_cases h : bor (ah : Int) ((bh : Int) + bor al bl) = 0
  · rw [e.1 h, h]; simp
  · have k : ¬ (m128 ((num ah al : Int) - num bh bl) : Int) = (num ah al : Int) - num bh bl := fun c => h (e.2 c)
    rw [show ((m128 ((num ah al : Int) - num bh bl) : Int) != (num ah al : Int) - num bh bl) = true from by simpa using k]
    simpa using h
theorem cmp_num (ah al bh bl : Nat) (h2 : al < 18446744073709551616) (h4 : bl < 18446744073709551616) : cmpI (num ah al) (num bh bl) = cW ah al bh bl := by
  unfold cW cmpI num
  split <;> split <;> (try split) <;> (try split) <;> omega
theorem fits_sum {x y : Int} (hx : 0 ≤ x) (hx' : x < 340282366920938463463374607431768211456) (hy : 0 ≤ y) (hy' : y < 340282366920938463463374607431768211456) : Fits (x + y).natAbs ∧ Fits (x - y).natAbs :=
  ⟨Fits.of (k := 5) (by omega) (by decide), Fits.of (k := 5) (by omega) (by decide)⟩
end Adds

theorem adds_all (ah al bh bl : Int) (h1 : Word ah) (h2 : Word al) (h3 : Word bh) (h4 : Word bl) (w : World) :
    Calls Try.prog 3 #[.agg #[.int .u64 ah, .int .u64 al], .agg #[.int .u64 bh, .int .u64 bl]] w fun e w' => e = .returned (.bool true) ∧ Below w.heap.size w w' := by
  have d1 := add_any ah al bh bl h1 h2 h3 h4
  have d2 := sub_any ah al bh bl h1 h2 h3 h4
  have d3 := cmp_any ah al bh bl
  have d4 := sat_any ah al bh bl h1 h2 h3 h4
  obtain ⟨a0, a1⟩ := h1; obtain ⟨b0, b1⟩ := h2; obtain ⟨e0, e1⟩ := h3; obtain ⟨f0, f1⟩ := h4
  obtain ⟨ah, rfl⟩ := Int.eq_ofNat_of_zero_le a0
  obtain ⟨al, rfl⟩ := Int.eq_ofNat_of_zero_le b0
  obtain ⟨bh, rfl⟩ := Int.eq_ofNat_of_zero_le e0
  obtain ⟨bl, rfl⟩ := Int.eq_ofNat_of_zero_le f0
  have x0 : (Adds.num ah al : Int) < 340282366920938463463374607431768211456 := by unfold Adds.num; omega
  have y0 : (Adds.num bh bl : Int) < 340282366920938463463374607431768211456 := by unfold Adds.num; omega
  have ff := Adds.fits_sum (x := Adds.num ah al) (y := Adds.num bh bl) (by omega) x0 (by omega) y0
  have k6 := fun g w (h : IntAt w g ((Adds.num ah al : Int) + Adds.num bh bl)) => awide_any g _ w h (by omega)
  have k7 := fun g w (h : IntAt w g ((Adds.num ah al : Int) - Adds.num bh bl)) => awide_any g _ w h (by omega)
  rw [← Adds.sum_hi ah al bh bl (by omega) (by omega), ← Adds.sum_lo ah al bh bl, ← Adds.sum_over ah al bh bl (by omega) (by omega) (by omega) (by omega)] at k6
  rw [← Adds.dif_hi ah al bh bl (by omega) (by omega), ← Adds.dif_lo ah al bh bl, ← Adds.dif_under ah al bh bl (by omega) (by omega) (by omega) (by omega)] at k7
  unfold tH tL at d4
  cases ho : sC ah al bh bl
  · rw [ho] at k6 d4
    simp only [ho] at d1
    exact adds_plain ah al bh bl _ _ _ _ _ _ _ _ (fun w => abig_any ah al w (by omega) (by omega)) (fun w => abig_any bh bl w (by omega) (by omega)) d1 d2 d3 d4 (Adds.cmp_num ah al bh bl (by omega) (by omega)) ff.1 ff.2 k6 k7 w
  · rw [ho] at k6 d4
    simp only [ho] at d1
    exact adds_over ah al bh bl _ _ _ _ _ _ _ _ (fun w => abig_any ah al w (by omega) (by omega)) (fun w => abig_any bh bl w (by omega) (by omega)) d1 d2 d3 d4 (Adds.cmp_num ah al bh bl (by omega) (by omega)) ff.1 ff.2 k6 k7 w
end Go.Proofs.Ytfopcipapphogaa
