/- alive10. -/
import Derived.Test.YtnbjcahhmibmdaaMt6
import Derived.Test.YtnbjcahhmibmdaaIn3a
namespace Go.Proofs.Ytnbjcahhmibmdaa
open Go.RowKit Go.Maps

def shots10 : List (Int × Int) := [(0, 8), (0, 4), (0, 4), (3, 8), (9, 0)]
theorem played10 : played 2 10 5 shots10 = ([1, 2, 3, 1, 1], ⟨2, 10, 5, 10, 3, 9⟩, 0) := by
  have h : (played 2 10 5 shots10).1 = [1, 2, 3, 1, 1] ∧ (played 2 10 5 shots10).2.1.rate = 2 ∧ (played 2 10 5 shots10).2.1.burst = 10 ∧ (played 2 10 5 shots10).2.1.exc = 5 ∧ (played 2 10 5 shots10).2.1.fst = 10 ∧ (played 2 10 5 shots10).2.1.snd = 3 ∧ (played 2 10 5 shots10).2.1.tm = 9 ∧ (played 2 10 5 shots10).2.2 = 0 := by decide
  obtain ⟨a, b, c, d, e, f, g, h⟩ := h
  generalize played 2 10 5 shots10 = X at *
  obtain ⟨o, ⟨r, b1, e1, f1, s1, t1⟩, er⟩ := X
  dsimp only at a b c d e f g h
  subst a b c d e f g h
  rfl
theorem shots10_in (w : World) : ShotsIn (w.alloc (.cells #[.int .i64 0, .int .i64 8, .int .i64 0, .int .i64 4, .int .i64 0, .int .i64 4, .int .i64 3, .int .i64 8, .int .i64 9, .int .i64 0] 25)) (some ⟨w.heap.size, 0, none⟩) shots10 := by
  refine ⟨fun _ => ⟨w.heap.size, 0, rfl, by simp, fun j o ho => ?_⟩, by decide⟩
  have hj : j < 5 := (List.getElem?_eq_some_iff.1 ho).1
  have hc := fun i => cell_of_row _ _ i _ _ _ (heap_alloc_new w (.cells #[.int .i64 0, .int .i64 8, .int .i64 0, .int .i64 4, .int .i64 0, .int .i64 4, .int .i64 3, .int .i64 8, .int .i64 9, .int .i64 0] 25))
  rcases (by omega : j = 0 ∨ j = 1 ∨ j = 2 ∨ j = 3 ∨ j = 4) with rfl | rfl | rfl | rfl | rfl <;>
    (simp only [shots10, List.getElem?_cons_zero, List.getElem?_cons_succ, Option.some.injEq] at ho; subst ho; exact ⟨hc _, hc _⟩)
theorem colours10_in (w : World) : IntsIn (w.alloc (.cells #[.int .i64 1, .int .i64 2, .int .i64 3, .int .i64 1, .int .i64 1] 3)) (some ⟨w.heap.size, 0, none⟩) [1, 2, 3, 1, 1] := by
  refine ⟨fun _ => ⟨w.heap.size, 0, rfl, by simp, fun j o ho => ?_⟩, by decide⟩
  have hj : j < 5 := (List.getElem?_eq_some_iff.1 ho).1
  have hc := fun i => cell_of_row _ _ i _ _ _ (heap_alloc_new w (.cells #[.int .i64 1, .int .i64 2, .int .i64 3, .int .i64 1, .int .i64 1] 3))
  rcases (by omega : j = 0 ∨ j = 1 ∨ j = 2 ∨ j = 3 ∨ j = 4) with rfl | rfl | rfl | rfl | rfl <;>
    (simp only [List.getElem?_cons_zero, List.getElem?_cons_succ, Option.some.injEq] at ho; subst ho; exact hc _)

set_option maxRecDepth 100000 in
set_option maxHeartbeats 4000000 in
theorem alive10_any (w : World) : Calls Try.prog 15 #[] w fun e w' => e = .returned (.bool true) ∧ Below w.heap.size w w' := by
  have b0 : Below w.heap.size w (w.alloc (.cells #[.int .i64 0, .int .i64 8, .int .i64 0, .int .i64 4, .int .i64 0, .int .i64 4, .int .i64 3, .int .i64 8, .int .i64 9, .int .i64 0] 25)) := (Below.refl _ _).alloc (Nat.le_refl _) _
  have hP := play_any (shots10_in w) 5 2 10 5
  rw [played10] at hP
  have HP := Lib.hid hP
  have HB := Lib.hid b0
  clear hP b0
  go_enter Try.func15, Try.ntmps15
  go_wp2_with fail
  refine HP.out.mono ?_
  rintro e w1 ⟨R, cR, rfl, hcR, hR, hb⟩
  dsimp only at hR
  have hl := laidM_at w1 ⟨2, 10, 5, 10, 3, 9⟩
  have HX := Lib.hid (And.intro ((HB.out.trans (hb.mono HB.out.size)).trans (hl.2.mono (Nat.le_trans HB.out.size hb.size))) (And.intro (hR.below hl.2) hl.1))
  clear hR hb hl HP HB hcR
  unfold Mt.cells
  dsimp only
  go_upto_region 2 with fail
  change Code.wp _ _ _ _ (laidM w1 ⟨2, 10, 5, 10, 3, 9⟩)
  generalize laidM w1 ⟨2, 10, 5, 10, 3, 9⟩ = w3 at *
  generalize w1.heap.size = g at *
  have bo : Below w3.heap.size w3 (w3.alloc (.cells #[.int .i64 1, .int .i64 2, .int .i64 3, .int .i64 1, .int .i64 1] 3)) := (Below.refl _ _).alloc (Nat.le_refl _) _
  have E1 : Calls Try.prog 14 #[.slice R 5 cR, .slice (some ⟨w3.heap.size, 0, none⟩) 5 5] (w3.alloc (.cells #[.int .i64 1, .int .i64 2, .int .i64 3, .int .i64 1, .int .i64 1] 3)) fun e w' => e = .returned (.bool true) ∧ ∃ k, w' = (w3.alloc (.cells #[.int .i64 1, .int .i64 2, .int .i64 3, .int .i64 1, .int .i64 1] 3)).drewN k :=
    (equal_any (HX.out.2.1.below bo) (colours10_in w3) cR 5).mono (fun e w' ⟨h1, h2⟩ => ⟨by rw [h1]; rfl, h2⟩)
  have HE := Lib.hid E1
  have HZ := Lib.hid (And.intro (HX.out.1.trans (bo.mono HX.out.1.size)) (HX.out.2.2.below bo))
  clear HX bo E1
  go_wp2_with fail
  refine HE.out.mono ?_
  rintro e w4 ⟨rfl, k, rfl⟩
  have HW := Lib.hid (And.intro (below_drewN HZ.out.1 k) (HZ.out.2.drewN k))
  clear HZ HE
  generalize (w3.alloc (.cells #[.int .i64 1, .int .i64 2, .int .i64 3, .int .i64 1, .int .i64 1] 3)).drewN k = w5 at *
  have hc := HW.out.2.cells
  dsimp only at hc
  obtain ⟨c0, c1, c2, c3, c4, c5⟩ := hc
  go_wp2_with fail
  go_ret
  exact ⟨rfl, HW.out.1⟩
end Go.Proofs.Ytnbjcahhmibmdaa
