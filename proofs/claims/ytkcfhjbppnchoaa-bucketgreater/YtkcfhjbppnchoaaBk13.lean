/- slices.Equal at equal words; alive9. -/
import Derived.Test.YtkcfhjbppnchoaaBkTakes
namespace Go.Proofs.Ytkcfhjbppnchoaa
open Go.RowKit Go.Maps

set_option maxRecDepth 100000 in
set_option maxHeartbeats 4000000 in
theorem equalW_any {w : World} {A1 A2 : Option Addr} {xs : List Bool} (h1 : WordsIn w A1 xs) (h2 : WordsIn w A2 xs) (c1 c2 : Nat) :
    Calls Try.prog 31 #[.slice A1 xs.length c1, .slice A2 xs.length c2] w fun e w' => e = .returned (.bool true) ∧ ∃ k, w' = w.drewN k := by
  have hl1 := h1.len
  obtain ⟨n, hn⟩ : ∃ n, xs.length = n := ⟨_, rfl⟩
  have HN := Lib.hid hn
  have H1 := Lib.hid h1
  have H2 := Lib.hid h2
  rw [hn] at hl1 ⊢
  clear h1 h2 hn
  go_enter Try.func31, Try.ntmps31
  go_wp2_with fail
  go_loopg [13] n (fun k c wr => ∃ i t : Nat, c = .int .i64 (i : Int) ∧ i + k = n ∧ wr = w.drewN t)
  case atStart => exact ⟨0, 0, rfl, by omega, rfl⟩
  case round =>
    obtain ⟨i, t, rfl, hik, rfl⟩ := hrel
    cases gk with
    | zero =>
      obtain rfl : i = n := by omega
      go_wp2_with fail
      go_ret
      exact ⟨rfl, t, rfl⟩
    | succ k =>
      have hi : i < n := by omega
      have i1 : (i : Int) < (n : Int) := by omega
      obtain ⟨b1, o1, x, rfl, hx, hat1, _⟩ := H1.out.next (i := i) (by have := HN.out; omega)
      obtain ⟨b2, o2, y, rfl, hy, hat2, _⟩ := H2.out.next (i := i) (by have := HN.out; omega)
      obtain rfl : x = y := by rw [hx] at hy; injection hy
      clear hx hy
      go_wp2_with fail
      go_quiet (fail)
      go_wp2_with fail
      go_roundg k
      case measure => omega
      case rel => exact ⟨i + 1, t + nq, by go_num, by omega, rfl⟩

def shots9 : List (Int × Int) := [(0, 8), (1, 3), (2, 3)]
theorem played9 : played 1 2 10 shots9 = ([true, false, true], ⟨1, 2, 10, 0, 2⟩, 0) := by
  have h : (played 1 2 10 shots9).1 = [true, false, true] ∧ (played 1 2 10 shots9).2.1.num = 1 ∧ (played 1 2 10 shots9).2.1.den = 2 ∧ (played 1 2 10 shots9).2.1.burst = 10 ∧ (played 1 2 10 shots9).2.1.lev = 0 ∧ (played 1 2 10 shots9).2.1.tm = 2 ∧ (played 1 2 10 shots9).2.2 = 0 := by decide
  obtain ⟨a, b, c, d, e, f, g⟩ := h
  generalize played 1 2 10 shots9 = X at *
  obtain ⟨o, ⟨n, m, u, l, t⟩, er⟩ := X
  dsimp only at a b c d e f g
  subst a b c d e f g
  rfl
theorem ready9 : (Bk.mk 1 2 10 0 2).ready 3 = (8, true, 0) := by decide
theorem shots9_in (w : World) : ShotsIn (w.alloc (.cells #[.int .i64 0, .int .i64 8, .int .i64 1, .int .i64 3, .int .i64 2, .int .i64 3] 36)) (some ⟨w.heap.size, 0, none⟩) shots9 := by
  refine ⟨fun _ => ⟨w.heap.size, 0, rfl, by simp, fun j o ho => ?_⟩, by decide⟩
  have hj : j < 3 := (List.getElem?_eq_some_iff.1 ho).1
  have hc := fun i => cell_of_row _ _ i _ _ _ (heap_alloc_new w (.cells #[.int .i64 0, .int .i64 8, .int .i64 1, .int .i64 3, .int .i64 2, .int .i64 3] 36))
  rcases (by omega : j = 0 ∨ j = 1 ∨ j = 2) with rfl | rfl | rfl <;>
    (simp only [shots9, List.getElem?_cons_zero, List.getElem?_cons_succ, Option.some.injEq] at ho; subst ho; exact ⟨hc _, hc _⟩)
theorem words9_in (w : World) : WordsIn (w.alloc (.cells #[.bool true, .bool false, .bool true] 4)) (some ⟨w.heap.size, 0, none⟩) [true, false, true] := by
  refine ⟨fun _ => ⟨w.heap.size, 0, rfl, by simp, fun j o ho => ?_⟩, by decide⟩
  have hj : j < 3 := (List.getElem?_eq_some_iff.1 ho).1
  have hc := fun i => cell_of_row _ _ i _ _ _ (heap_alloc_new w (.cells #[.bool true, .bool false, .bool true] 4))
  rcases (by omega : j = 0 ∨ j = 1 ∨ j = 2) with rfl | rfl | rfl <;>
    (simp only [List.getElem?_cons_zero, List.getElem?_cons_succ, Option.some.injEq] at ho; subst ho; exact hc _)

set_option maxRecDepth 100000 in
set_option maxHeartbeats 4000000 in
theorem alive9_any (w : World) : Calls Try.prog 20 #[] w fun e w' => e = .returned (.bool true) ∧ Below w.heap.size w w' := by
  have b0 : Below w.heap.size w (w.alloc (.cells #[.int .i64 0, .int .i64 8, .int .i64 1, .int .i64 3, .int .i64 2, .int .i64 3] 36)) := (Below.refl _ _).alloc (Nat.le_refl _) _
  have hP := play_any (shots9_in w) 3 1 2 10
  rw [played9] at hP
  have HP := Lib.hid hP
  have HB := Lib.hid b0
  have HR : Hid (∀ W, Calls Try.prog 11 #[.agg #[.int .i64 1, .int .i64 2, .int .i64 10, .int .i64 0, .int .i64 2], .int .i64 3] W fun e w' => e = .returned (.tuple #[.int .i64 8, .bool true, .int .i64 0]) ∧ Below W.heap.size W w') := Lib.hid (fun W => by
    have := ready_any ⟨1, 2, 10, 0, 2⟩ 3 W
    rw [ready9] at this
    exact this)
  clear hP b0
  go_enter Try.func20, Try.ntmps20
  go_wp2_with fail
  refine HP.out.mono ?_
  rintro e w1 ⟨R, cR, rfl, hcR, hR, hb⟩
  dsimp only at hR
  have hl := laidB_at w1 ⟨1, 2, 10, 0, 2⟩
  have HX := Lib.hid (And.intro ((HB.out.trans (hb.mono HB.out.size)).trans (hl.2.mono (Nat.le_trans HB.out.size hb.size))) (And.intro (hR.below hl.2) hl.1))
  clear hR hb hl HP HB hcR
  unfold Bk.cells
  dsimp only
  go_upto_region 2 with fail
  change Code.wp _ _ _ _ (laidB w1 ⟨1, 2, 10, 0, 2⟩)
  generalize laidB w1 ⟨1, 2, 10, 0, 2⟩ = w2 at *
  generalize w1.heap.size = g at *
  have hc := HX.out.2.2.cells
  dsimp only at hc
  obtain ⟨c0, c1, c2, c3, c4⟩ := hc
  go_wp2_with fail
  refine (HR.out _).mono ?_
  rintro e w3 ⟨rfl, hb⟩
  have HY := Lib.hid (And.intro (HX.out.1.trans (hb.mono HX.out.1.size)) (And.intro (HX.out.2.1.below hb) (HX.out.2.2.below hb)))
  clear HX HR hb c0 c1 c2 c3 c4
  have bo : Below w3.heap.size w3 (w3.alloc (.cells #[.bool true, .bool false, .bool true] 4)) := (Below.refl _ _).alloc (Nat.le_refl _) _
  have E1 : Calls Try.prog 31 #[.slice R 3 cR, .slice (some ⟨w3.heap.size, 0, none⟩) 3 3] (w3.alloc (.cells #[.bool true, .bool false, .bool true] 4)) fun e w' => e = .returned (.bool true) ∧ ∃ k, w' = (w3.alloc (.cells #[.bool true, .bool false, .bool true] 4)).drewN k :=
    equalW_any (HY.out.2.1.below bo) (words9_in w3) cR 3
  have HE := Lib.hid E1
  have HZ := Lib.hid (And.intro (HY.out.1.trans (bo.mono HY.out.1.size)) (HY.out.2.2.below bo))
  clear HY bo E1
  go_wp2_with fail
  refine HE.out.mono ?_
  rintro e w4 ⟨rfl, k, rfl⟩
  have HW := Lib.hid (And.intro (below_drewN HZ.out.1 k) (HZ.out.2.drewN k))
  clear HZ HE
  generalize (w3.alloc (.cells #[.bool true, .bool false, .bool true] 4)).drewN k = w5 at *
  have hc := HW.out.2.cells
  dsimp only at hc
  obtain ⟨c0, c1, c2, c3, c4⟩ := hc
  go_wp2_with fail
  go_ret
  exact ⟨rfl, HW.out.1⟩
end Go.Proofs.Ytkcfhjbppnchoaa
