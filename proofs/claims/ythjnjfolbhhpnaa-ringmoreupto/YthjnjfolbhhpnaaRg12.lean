/- alive8. -/
import Derived.Test.YthjnjfolbhhpnaaRg8
namespace Go.Proofs.Ythjnjfolbhhpnaa
open Go.RowKit Go.Maps

def ops8 : List (Int × Int) := [(1, 60), (1, 50), (1, 40), (2, 0), (1, 60)]
theorem played8 : played 2 100 ops8 = ([60], ⟨[40, 60], 2, 100, 1⟩, 0) := by
  have h : (played 2 100 ops8).1 = [60] ∧ (played 2 100 ops8).2.1.has = [40, 60] ∧ (played 2 100 ops8).2.1.most = 2 ∧ (played 2 100 ops8).2.1.mb = 100 ∧ (played 2 100 ops8).2.1.dr = 1 ∧ (played 2 100 ops8).2.2 = 0 := by decide
  obtain ⟨a, b, c, d, e, f⟩ := h
  generalize played 2 100 ops8 = X at *
  obtain ⟨o, ⟨h, m, mb, dr⟩, er⟩ := X
  dsimp only at a b c d e f
  subst a b c d e f
  rfl
/-- Numbers in a block of their own. -/
theorem ints_new (w : World) (xs : List Int) (hl : xs.length * 8 ≤ 281474976710656) : IntsIn (w.alloc (.cells (i64s xs).toArray 3)) (some ⟨w.heap.size, 0, none⟩) xs :=
  ⟨fun _ => ⟨w.heap.size, 0, rfl, by simp, fun j x hx => by
    rw [Nat.zero_add, cell_of_row _ _ _ _ _ _ (heap_alloc_new w _)]
    simpa using i64s_at hx⟩, hl⟩
theorem ops8_in (w : World) : OpsIn (w.alloc (.cells #[.int .i64 1, .int .i64 60, .int .i64 1, .int .i64 50, .int .i64 1, .int .i64 40, .int .i64 2, .int .i64 0, .int .i64 1, .int .i64 60] 26)) (some ⟨w.heap.size, 0, none⟩) ops8 := by
  refine ⟨fun _ => ⟨w.heap.size, 0, rfl, by simp, fun j o ho => ?_⟩, by decide⟩
  have hj : j < 5 := lt_of_some ho
  have hc := fun i => cell_of_row _ _ i _ _ _ (heap_alloc_new w (.cells #[.int .i64 1, .int .i64 60, .int .i64 1, .int .i64 50, .int .i64 1, .int .i64 40, .int .i64 2, .int .i64 0, .int .i64 1, .int .i64 60] 26))
  rcases (by omega : j = 0 ∨ j = 1 ∨ j = 2 ∨ j = 3 ∨ j = 4) with rfl | rfl | rfl | rfl | rfl <;>
    (simp only [ops8, List.getElem?_cons_zero, List.getElem?_cons_succ, Option.some.injEq] at ho; subst ho; exact ⟨hc _, hc _⟩)

set_option maxRecDepth 100000 in
set_option maxHeartbeats 4000000 in
theorem alive8_any (w : World) : Calls Try.prog 16 #[] w fun e w' => e = .returned (.bool true) ∧ Below w.heap.size w w' := by
  have b0 : Below w.heap.size w (w.alloc (.cells #[.int .i64 1, .int .i64 60, .int .i64 1, .int .i64 50, .int .i64 1, .int .i64 40, .int .i64 2, .int .i64 0, .int .i64 1, .int .i64 60] 26)) := (Below.refl _ _).alloc (Nat.le_refl _) _
  have hP := play_any (ops8_in w) (n := 5) rfl 5 2 100
  rw [played8] at hP
  have HP := Lib.hid hP
  have HB := Lib.hid b0
  clear hP b0
  go_enter Try.func16, Try.ntmps16
  go_wp2_with fail
  refine HP.out.mono ?_
  rintro e w1 ⟨R, cR, A, cap, rfl, hR, hA, hb⟩
  dsimp only at hR hA
  have bq : Below w1.heap.size w1 (w1.alloc (.cells (Qu.cells ⟨[40, 60], 2, 100, 1⟩ A cap) 24)) := (Below.refl _ _).alloc (Nat.le_refl _) _
  have HW := Lib.hid ((HB.out.trans (hb.mono HB.out.size)).trans (bq.mono (Nat.le_trans HB.out.size hb.size)))
  have H1 := Lib.hid (And.intro ((hR.below bq).ints (by decide)) ((hA.below bq).ints (by decide)))
  have hq := QuAt.new w1 ⟨[40, 60], 2, 100, 1⟩ A cap
  obtain ⟨x0, x1, x2, x3⟩ := hq.cells
  have HQ := Lib.hid hq
  clear hR hA hb bq HP HB hq x1 x2
  unfold Qu.cells at *
  have hl := HQ.out.lt
  go_upto_region 2 with fail
  generalize w1.alloc (.cells #[.slice A 2 cap, .int .i64 2, .int .i64 100, .int .i64 1] 24) = w2 at *
  generalize w1.heap.size = b at *
  have b3 : Below w2.heap.size w2 (w2.alloc (.cells #[.int .i64 60] 3)) := (Below.refl _ _).alloc (Nat.le_refl _) _
  have E1 : Calls Try.prog 15 #[.slice R 1 cR, .slice (some ⟨w2.heap.size, 0, none⟩) 1 1] (w2.alloc (.cells #[.int .i64 60] 3)) fun e w' => e = .returned (.bool true) ∧ ∃ k, w' = (w2.alloc (.cells #[.int .i64 60] 3)).drewN k :=
    equal_any (H1.out.1.below b3) (ints_new w2 [60] (by decide)) cR 1
  have H3 : Hid (∀ k, Below w2.heap.size w2 ((w2.alloc (.cells #[.int .i64 60] 3)).drewN k)) := Lib.hid (fun k => ⟨b3.os, b3.tape, b3.output, b3.size, b3.block⟩)
  have HE1 := Lib.hid E1
  clear b3 E1 x0 x3 hl
  go_wp2_with fail
  refine HE1.out.mono ?_
  rintro e w3 ⟨rfl, k, rfl⟩
  have b3 := H3.out k
  generalize (w2.alloc (.cells #[.int .i64 60] 3)).drewN k = w3 at *
  have b4 : Below w3.heap.size w3 (w3.alloc (.cells #[.int .i64 40, .int .i64 60] 3)) := (Below.refl _ _).alloc (Nat.le_refl _) _
  have E2 : Calls Try.prog 15 #[.slice A 2 cap, .slice (some ⟨w3.heap.size, 0, none⟩) 2 2] (w3.alloc (.cells #[.int .i64 40, .int .i64 60] 3)) fun e w' => e = .returned (.bool true) ∧ ∃ k, w' = (w3.alloc (.cells #[.int .i64 40, .int .i64 60] 3)).drewN k :=
    equal_any ((H1.out.2.below b3).below b4) (ints_new w3 [40, 60] (by decide)) cap 2
  have HE2 := Lib.hid E2
  have HQ3 := Lib.hid (fun k => show QuAt ((w3.alloc (.cells #[.int .i64 40, .int .i64 60] 3)).drewN k) b ⟨[40, 60], 2, 100, 1⟩ A cap from ((HQ.out.below b3).below (w' := (w3.alloc (.cells #[.int .i64 40, .int .i64 60] 3)).drewN k) ⟨b4.os, b4.tape, b4.output, b4.size, b4.block⟩))
  have HZ : Hid (∀ k, Below w.heap.size w ((w3.alloc (.cells #[.int .i64 40, .int .i64 60] 3)).drewN k)) := Lib.hid (fun k => by
    have h := (HW.out.trans (b3.mono HW.out.size)).trans (b4.mono (Nat.le_trans HW.out.size b3.size))
    exact ⟨h.os, h.tape, h.output, h.size, h.block⟩)
  have x0 := (HQ.out.below b3).cells.1
  clear HE1 H3 b3 b4 E2 HQ H1 HW
  dsimp only at x0
  go_wp2_with fail
  refine HE2.out.mono ?_
  rintro e w5 ⟨rfl, k2, rfl⟩
  have x3 := (HQ3.out k2).cells.2.2.2
  have hz := HZ.out k2
  generalize (w3.alloc (.cells #[.int .i64 40, .int .i64 60] 3)).drewN k2 = w5 at *
  have HZ5 := Lib.hid hz
  clear hz HZ HE2 x0 HQ3
  dsimp only at x3
  go_wp2_with fail
  go_ret
  exact ⟨rfl, HZ5.out⟩
end Go.Proofs.Ythjnjfolbhhpnaa
