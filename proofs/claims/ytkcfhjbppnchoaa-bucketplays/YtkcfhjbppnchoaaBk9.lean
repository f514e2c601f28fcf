/- The reference: IRight. -/
import Derived.Test.YtkcfhjbppnchoaaBk8
namespace Go.Proofs.Ytkcfhjbppnchoaa
open Go.RowKit Go.Maps

def Bk.nth (b : Bk) (i : Nat) : Int := if i = 0 then b.num else if i = 1 then b.den else b.burst
theorem right_nth {b : Bk} {i : Nat} (h : btw (b.nth i) 0 1048576 = false) : b.right = false := by
  rw [Bool.eq_false_iff]
  intro e
  have k := Bk.right_iff.1 e
  have : btw (b.nth i) 0 1048576 = true := by
    rw [btw_true]
    unfold Bk.nth
    have := k.n0; have := k.n1; have := k.u0; have := k.u1; have := k.d0; have := k.d1
    split
    · omega
    · split <;> omega
  rw [h] at this
  cases this
theorem right_rest {b : Bk} (h : ∀ j, j < 3 → btw (b.nth j) 0 1048576 = true) :
    wrap64 (b.den * b.burst) = b.den * b.burst ∧ b.right = (decide (0 < b.den) && (decide (0 ≤ b.lev) && (decide (b.lev ≤ b.den * b.burst) && (decide (0 ≤ b.tm) && decide (b.tm ≤ 1099511627776))))) := by
  obtain ⟨a0, a1⟩ := btw_true.1 (h 0 (by decide))
  obtain ⟨d0, d1⟩ := btw_true.1 (h 1 (by decide))
  obtain ⟨u0, u1⟩ := btw_true.1 (h 2 (by decide))
  simp only [Bk.nth, if_true, if_false, show (1 : Nat) ≠ 0 by decide, show (2 : Nat) ≠ 0 by decide, show (2 : Nat) ≠ 1 by decide] at a0 a1 d0 d1 u0 u1
  have hm := mul_le_of d0 d1 u0 u1
  refine ⟨w64 (by omega) (by omega), ?_⟩
  rw [Bool.eq_iff_iff, Bk.right_iff]
  simp only [Bool.and_eq_true, decide_eq_true_iff]
  rw [Int.mul_comm]
  constructor
  · intro k
    exact ⟨k.d0, k.l0, k.l1, k.t0, k.t1⟩
  · rintro ⟨k1, k2, k3, k4, k5⟩
    exact ⟨a0, a1, u0, u1, k1, d1, k2, k3, k4, k5⟩

set_option maxRecDepth 100000 in
set_option maxHeartbeats 8000000 in
theorem iRight_any (b : Bk) (w : World) :
    Calls Try.prog 13 #[.agg b.cells] w fun e w' => e = .returned (.bool b.right) ∧ Below w.heap.size w w' := by
  have HX := Lib.hid (box1 w b)
  have HN := Lib.hid (fun i => right_nth (b := b) (i := i))
  have HR := Lib.hid (right_rest (b := b))
  obtain ⟨c0, c1, c2, c3, c4⟩ := HX.out.first.cells
  have hl := HX.out.first.lt
  unfold Bk.cells
  go_enter Try.func13, Try.ntmps13
  go_upto_region 1 with fail
  change Code.wp _ _ _ _ (one w b)
  generalize one w b = m at *
  have HA : Hid (∀ i, i < 3 → (m.alloc (.cells #[.int .i64 b.num, .int .i64 b.den, .int .i64 b.burst] 3)).cell? ⟨m.heap.size, i, none⟩ = some (.int .i64 (b.nth i))) := Lib.hid (fun i hi => by
    rw [cell_of_row _ _ i _ _ _ (heap_alloc_new m _)]
    rcases (by omega : i = 0 ∨ i = 1 ∨ i = 2) with rfl | rfl | rfl <;> rfl)
  have bo : Below m.heap.size m (m.alloc (.cells #[.int .i64 b.num, .int .i64 b.den, .int .i64 b.burst] 3)) := (Below.refl _ _).alloc (Nat.le_refl _) _
  have HX1 := Lib.hid (HX.out.later bo)
  clear bo HX
  go_upto_region 2 with fail
  clear c0 c1 c2 c3 c4 hl
  generalize m.alloc (.cells #[.int .i64 b.num, .int .i64 b.den, .int .i64 b.burst] 3) = m2 at *
  generalize m.heap.size = q at *
  go_loopg [13] 3 (fun k c wr => ∃ i : Nat, c = .int .i64 (i : Int) ∧ i + k = 3 ∧ wr = m2 ∧ Hid (∀ j, j < i → btw (b.nth j) 0 1048576 = true))
  case atStart => exact ⟨0, rfl, by omega, rfl, Lib.hid (fun j hj => by omega)⟩
  case round =>
    obtain ⟨i, rfl, hik, rfl, HI⟩ := hrel
    cases gk with
    | zero =>
      obtain rfl : i = 3 := by omega
      obtain ⟨e1, hr⟩ := HR.out HI.out
      obtain ⟨M, hM⟩ : ∃ M, b.den * b.burst = M := ⟨_, rfl⟩
      rw [hM] at hr
      have HQ := Lib.hid hr
      have e1' : wrap64 (b.den * b.burst) = M := by rw [e1, hM]
      clear hr hM e1 HI HN HA HR
      obtain ⟨c0, c1, c2, c3, c4⟩ := HX1.out.first.cells
      go_wp2_with fail
      all_goals
        go_ret
        refine ⟨ret_bool ?_, HX1.out.below⟩
        rw [HQ.out]
        clear HQ c0 c1 c2 c3 c4 e1'
        first | (simp [*]; done) | (simp; omega)
    | succ k =>
      have hi : i < 3 := by omega
      have i1 : (i : Int) < 3 := by omega
      have hc := HA.out i hi
      have HJ : Hid (btw (b.nth i) 0 1048576 = true → ∀ j, j < i + 1 → btw (b.nth j) 0 1048576 = true) := Lib.hid (fun h j hj => by
        rcases Nat.lt_or_ge j i with c | c
        · exact HI.out j c
        · obtain rfl : j = i := by omega
          exact h)
      have HF := Lib.hid (HN.out i)
      clear HI HA HN HR
      generalize b.nth i = x at *
      by_cases x0 : x < 0
      · have HT := Lib.hid (HF.out (btw_false.2 (.inl x0)))
        clear HF HJ
        go_wp2_with fail
        go_ret
        exact ⟨ret_bool HT.out.symm, HX1.out.below⟩
      · have x0' : decide (x < 0) = false := decide_eq_false x0
        by_cases x1 : 1048576 < x
        · have HT := Lib.hid (HF.out (btw_false.2 (.inr x1)))
          clear HF HJ x0
          go_wp2_with fail
          go_ret
          exact ⟨ret_bool HT.out.symm, HX1.out.below⟩
        · have HT := Lib.hid (HJ.out (btw_true.2 ⟨by omega, by omega⟩))
          have x1' : decide (1048576 < x) = false := decide_eq_false x1
          clear HF HJ x0
          go_wp2_with fail
          go_roundg k
          case measure => omega
          case rel => exact ⟨i + 1, by go_num, by omega, rfl, HT⟩
end Go.Proofs.Ytkcfhjbppnchoaa
