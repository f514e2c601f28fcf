/- alive11. -/
import Derived.Test.YtdlmiiekcpbdcaaCv5
import Derived.Test.YtdlmiiekcpbdcaaCv6
import Derived.Test.YtdlmiiekcpbdcaaIn3a
namespace Go.Proofs.Ytdlmiiekcpbdcaa
open Go.RowKit Go.Maps

theorem come11_in (w : World) : IntsIn (w.alloc (.cells #[.int .i64 6, .int .i64 0, .int .i64 0, .int .i64 5, .int .i64 0] 3)) (some ⟨w.heap.size, 0, none⟩) [6, 0, 0, 5, 0] := by
  refine ⟨fun _ => ⟨w.heap.size, 0, rfl, by simp, fun j o ho => ?_⟩, by decide⟩
  have hj : j < 5 := (List.getElem?_eq_some_iff.1 ho).1
  have hc := fun i => cell_of_row _ _ i _ _ _ (heap_alloc_new w (.cells #[.int .i64 6, .int .i64 0, .int .i64 0, .int .i64 5, .int .i64 0] 3))
  rcases (by omega : j = 0 ∨ j = 1 ∨ j = 2 ∨ j = 3 ∨ j = 4) with rfl | rfl | rfl | rfl | rfl <;>
    (simp only [List.getElem?_cons_zero, List.getElem?_cons_succ, Option.some.injEq] at ho; subst ho; exact hc _)
theorem gone11_in (w : World) : IntsIn (w.alloc (.cells #[.int .i64 0, .int .i64 4, .int .i64 2, .int .i64 0, .int .i64 4] 3)) (some ⟨w.heap.size, 0, none⟩) [0, 4, 2, 0, 4] := by
  refine ⟨fun _ => ⟨w.heap.size, 0, rfl, by simp, fun j o ho => ?_⟩, by decide⟩
  have hj : j < 5 := (List.getElem?_eq_some_iff.1 ho).1
  have hc := fun i => cell_of_row _ _ i _ _ _ (heap_alloc_new w (.cells #[.int .i64 0, .int .i64 4, .int .i64 2, .int .i64 0, .int .i64 4] 3))
  rcases (by omega : j = 0 ∨ j = 1 ∨ j = 2 ∨ j = 3 ∨ j = 4) with rfl | rfl | rfl | rfl | rfl <;>
    (simp only [List.getElem?_cons_zero, List.getElem?_cons_succ, Option.some.injEq] at ho; subst ho; exact hc _)
theorem kept11_in (w : World) : IntsIn (w.alloc (.cells #[.int .i64 4, .int .i64 1, .int .i64 2] 3)) (some ⟨w.heap.size, 0, none⟩) [4, 1, 2] := by
  refine ⟨fun _ => ⟨w.heap.size, 0, rfl, by simp, fun j o ho => ?_⟩, by decide⟩
  have hj : j < 3 := (List.getElem?_eq_some_iff.1 ho).1
  have hc := fun i => cell_of_row _ _ i _ _ _ (heap_alloc_new w (.cells #[.int .i64 4, .int .i64 1, .int .i64 2] 3))
  rcases (by omega : j = 0 ∨ j = 1 ∨ j = 2) with rfl | rfl | rfl <;>
    (simp only [List.getElem?_cons_zero, List.getElem?_cons_succ, Option.some.injEq] at ho; subst ho; exact hc _)
theorem delay11 : delay 10 2 3 4 = (5, 0) := by decide
theorem backlog11 : backlog 10 2 3 4 = (16, 0) := by decide
theorem serve11 : serve 1 4 [6, 0, 0, 5, 0] = ([0, 4, 2, 0, 4], 0) := by decide
theorem keeps11 : keeps 3 1 [4, 1, 2] = (false, 0) := by decide

set_option maxRecDepth 100000 in
set_option maxHeartbeats 4000000 in
theorem alive11_any (w : World) : Calls Try.prog 21 #[] w fun e w' => e = .returned (.bool true) ∧ Below w.heap.size w w' := by
  have HD := Lib.hid (fun W => delay_any 10 2 3 4 W)
  have HB := Lib.hid (fun W => backlog_any 10 2 3 4 W)
  rw [delay11] at HD
  rw [backlog11] at HB
  have HS := Lib.hid (fun W => serve_any (come11_in W) 5 1 4)
  rw [serve11] at HS
  have HK := Lib.hid (fun W => keeps_any (kept11_in W) 3 3 1)
  rw [keeps11] at HK
  unfold Served at HS
  dsimp only [List.length_cons, List.length_nil] at HS HK HD HB
  go_enter Try.func21, Try.ntmps21
  go_wp2_with fail
  refine (HD.out _).mono ?_
  rintro e w1 ⟨rfl, hb1⟩
  have H1 := Lib.hid hb1
  clear hb1 HD
  go_wp2_with fail
  refine (HB.out _).mono ?_
  rintro e w2 ⟨rfl, hb2⟩
  have H2 := Lib.hid (H1.out.trans (hb2.mono H1.out.size))
  clear hb2 H1 HB
  go_wp2_with fail
  refine (HS.out _).mono ?_
  rintro e w3 ⟨R, cR, rfl, _, hR, hb3⟩
  have bo : Below w2.heap.size w2 (w2.alloc (.cells #[.int .i64 6, .int .i64 0, .int .i64 0, .int .i64 5, .int .i64 0] 3)) := (Below.refl _ _).alloc (Nat.le_refl _) _
  have H3 := Lib.hid (And.intro hR ((H2.out.trans (bo.mono H2.out.size)).trans (hb3.mono (Nat.le_trans H2.out.size bo.size))))
  clear hR hb3 bo H2 HS
  go_wp2_with fail
  refine (HK.out _).mono ?_
  rintro e w4 ⟨rfl, hb4⟩
  have bo : Below w3.heap.size w3 (w3.alloc (.cells #[.int .i64 4, .int .i64 1, .int .i64 2] 3)) := (Below.refl _ _).alloc (Nat.le_refl _) _
  have hb5 := bo.trans (hb4.mono bo.size)
  have H4 := Lib.hid (And.intro (H3.out.1.below hb5) (H3.out.2.trans (hb5.mono H3.out.2.size)))
  clear hb4 hb5 bo H3 HK
  have bo : Below w4.heap.size w4 (w4.alloc (.cells #[.int .i64 0, .int .i64 4, .int .i64 2, .int .i64 0, .int .i64 4] 3)) := (Below.refl _ _).alloc (Nat.le_refl _) _
  have E1 : Calls Try.prog 19 #[.slice R 5 cR, .slice (some ⟨w4.heap.size, 0, none⟩) 5 5] (w4.alloc (.cells #[.int .i64 0, .int .i64 4, .int .i64 2, .int .i64 0, .int .i64 4] 3)) fun e w' => e = .returned (.bool true) ∧ ∃ k, w' = (w4.alloc (.cells #[.int .i64 0, .int .i64 4, .int .i64 2, .int .i64 0, .int .i64 4] 3)).drewN k :=
    (equal_any (H4.out.1.below bo) (gone11_in w4) cR 5).mono (fun e w' ⟨h1, h2⟩ => ⟨by rw [h1]; rfl, h2⟩)
  have HE := Lib.hid E1
  have H5 := Lib.hid (H4.out.2.trans (bo.mono H4.out.2.size))
  clear E1 bo H4
  go_wp2_with fail
  refine HE.out.mono ?_
  rintro e w5 ⟨rfl, k, rfl⟩
  go_wp2_with fail
  go_ret
  exact ⟨rfl, below_drewN H5.out k⟩
end Go.Proofs.Ytdlmiiekcpbdcaa
