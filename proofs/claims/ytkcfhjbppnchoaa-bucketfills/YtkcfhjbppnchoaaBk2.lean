/- bucket.Fill, Full. -/
import Derived.Test.YtkcfhjbppnchoaaBk1
namespace Go.Proofs.Ytkcfhjbppnchoaa
open Go.RowKit Go.Maps

/-- A bucket and an error are the answer; nothing old has turned. -/
def Filled (w : World) (r : Bk × Int) (e : Ending) (w' : World) : Prop := e = .returned (.tuple #[.agg r.1.cells, .int .i64 r.2]) ∧ Below w.heap.size w w'

/-- A bucket's box, and a block for the result behind it. -/
structure Box2 (w m : World) (b : Bk) : Prop where
  eq : m = (w.alloc (.cells #[.int .i64 b.num, .int .i64 b.den, .int .i64 b.burst, .int .i64 b.lev, .int .i64 b.tm] 23)).alloc (.cells #[.int .i64 0, .int .i64 0, .int .i64 0, .int .i64 0, .int .i64 0] 23)
  below : Below w.heap.size w m
  size : m.heap.size = w.heap.size + 2
  first : BkAt m w.heap.size b
  second : BkAt m (w.heap.size + 1) Bk.zero
theorem box2 (w : World) (b : Bk) : ∃ m, Box2 w m b := by
  refine ⟨_, rfl, ?_, by simp, ?_, ?_⟩
  · have b1 : Below w.heap.size w (w.alloc (.cells b.cells 23)) := (Below.refl _ _).alloc (Nat.le_refl _) _
    exact b1.alloc b1.size _
  · unfold BkAt
    rw [Below.heap_alloc _ _ _ (by simp)]
    exact heap_alloc_new w _
  · have : w.heap.size + 1 = (w.alloc (.cells #[.int .i64 b.num, .int .i64 b.den, .int .i64 b.burst, .int .i64 b.lev, .int .i64 b.tm] 23)).heap.size := by simp
    unfold BkAt
    rw [this]
    exact heap_alloc_new _ _
theorem filled_zero {w W : World} {b : Bk} {t c : Int} (h : b.fill t = (Bk.zero, c)) (hb : Below w.heap.size w W) : Filled w (b.fill t) (.returned (.tuple #[.agg Bk.zero.cells, .int .i64 c])) W := by
  rw [h]
  exact ⟨rfl, hb⟩

set_option maxRecDepth 100000 in
set_option maxHeartbeats 8000000 in
theorem fill_any (b : Bk) (t : Int) (w : World) :
    Calls Try.prog 10 #[.agg b.cells, .int .i64 t] w (Filled w (b.fill t)) := by
  obtain ⟨m, hm⟩ := box2 w b
  have HM := Lib.hid hm
  have HR := Lib.hid (right_any b m)
  obtain ⟨c0, c1, c2, c3, c4⟩ := hm.first.cells
  clear hm
  cases hr : b.right with
  | false =>
    have HZ : Hid (∀ W, Below w.heap.size w W → Filled w (b.fill t) (.returned (.tuple #[.agg Bk.zero.cells, .int .i64 1])) W) := Lib.hid (fun W hW => filled_zero (by unfold Bk.fill; rw [hr]; rfl) hW)
    rw [hr] at HR
    clear hr
    generalize Filled w (b.fill t) = D at *
    unfold Bk.cells at HR ⊢
    go_enter Try.func10, Try.ntmps10
    go_upto_region 1 with fail
    rw [← HM.out.eq]
    go_wp2_with fail
    refine HR.out.mono ?_
    rintro e w1 ⟨rfl, hb⟩
    have HQ := Lib.hid (HM.out.second.below hb)
    have HB1 := Lib.hid (HM.out.below.trans (hb.mono HM.out.below.size))
    clear hb HR HM c0 c1 c2 c3 c4
    go_wp2_with (refine wpList_store_bk rfl (.tmp 4) (.tmp 9) rfl (w.heap.size + 1) Bk.zero Bk.zero rfl rfl HQ.out ?_)
    exact bodyPost_ret (results_bk2 4 5 rfl _ _ rfl (HQ.out.stored Bk.zero)) rfl (HZ.out _ (below_setRow HB1.out (by omega) _))
  | true =>
    have hok := Bk.right_iff.1 hr
    have H0 := Lib.hid (fun w => between_eq t b.tm 1099511627776 w)
    rw [hr] at HR
    cases hj : btw t b.tm 1099511627776 with
    | false =>
      rw [hj] at H0
      have HZ : Hid (∀ W, Below w.heap.size w W → Filled w (b.fill t) (.returned (.tuple #[.agg Bk.zero.cells, .int .i64 2])) W) := Lib.hid (fun W hW => filled_zero (by unfold Bk.fill; rw [hr, hj]; rfl) hW)
      clear hr hok hj
      generalize Filled w (b.fill t) = D at *
      unfold Bk.cells at HR ⊢
      go_enter Try.func10, Try.ntmps10
      go_upto_region 1 with fail
      rw [← HM.out.eq]
      go_wp2_with fail
      refine HR.out.mono ?_
      rintro e w1 ⟨rfl, hb⟩
      have HQ := Lib.hid (HM.out.second.below hb)
      have hf := (HM.out.first.below hb).cells
      have HB1 := Lib.hid (HM.out.below.trans (hb.mono HM.out.below.size))
      clear hb HR HM c0 c1 c2 c3 c4
      obtain ⟨c0, c1, c2, c3, c4⟩ := hf
      go_wp2_with (first | (go_at_call 21; (with_reducible refine (H0.out _).mono ?_); rintro e w2 ⟨rfl, rfl⟩) | (refine wpList_store_bk rfl (.tmp 4) (.tmp 15) rfl (w.heap.size + 1) Bk.zero Bk.zero rfl rfl HQ.out ?_))
      exact bodyPost_ret (results_bk2 4 5 rfl _ _ rfl (HQ.out.stored Bk.zero)) rfl (HZ.out _ (below_setRow HB1.out (by omega) _))
    | true =>
      rw [hj] at H0
      obtain ⟨t0, t1⟩ := btw_true.1 hj
      have hc := hok.comes t0 t1
      have hmo := hok.most
      have HZ : Hid (∀ W, Below w.heap.size w W → Filled w (b.fill t) (.returned (.tuple #[.agg (b.to t).cells, .int .i64 0])) W) := Lib.hid (fun W hW => by
        have : b.fill t = (b.to t, 0) := by unfold Bk.fill; rw [hr, hj]; rfl
        rw [this]
        exact ⟨rfl, hW⟩)
      obtain ⟨X, e1, hX⟩ : ∃ X, wrap64 (t - b.tm) = X ∧ t - b.tm = X := ⟨_, w64 (by have := hok.t0; omega) (by have := hok.t0; omega), rfl⟩
      obtain ⟨Y, e2, hY⟩ : ∃ Y, wrap64 (b.num * X) = Y ∧ b.num * X = Y := ⟨_, w64 (by rw [← hX]; omega) (by rw [← hX]; omega), rfl⟩
      obtain ⟨Z, e3, hZ⟩ : ∃ Z, wrap64 (b.lev + Y) = Z ∧ b.lev + Y = Z := ⟨_, w64 (by rw [← hY, ← hX]; have := hok.l0; omega) (by rw [← hY, ← hX]; have := hok.l1; omega), rfl⟩
      obtain ⟨M, e4, hM⟩ : ∃ M, wrap64 (b.burst * b.den) = M ∧ b.burst * b.den = M := ⟨_, w64 (by omega) (by omega), rfl⟩
      have hL : b.to t = ⟨b.num, b.den, b.burst, min Z M, t⟩ := by rw [← hZ, ← hY, ← hX, ← hM]; rfl
      have HL := Lib.hid hL
      clear hr hok hj hc hmo t0 t1 hX hY hZ hM hL
      generalize Filled w (b.fill t) = D at *
      generalize b.to t = bt at *
      unfold Bk.cells at HR ⊢
      by_cases hle : Z ≤ M
      all_goals
        first | rw [Int.min_eq_left hle] at HL | rw [Int.min_eq_right (Int.le_of_lt (Int.not_le.1 hle))] at HL
        go_enter Try.func10, Try.ntmps10
        go_upto_region 1 with fail
        rw [← HM.out.eq]
        go_wp2_with fail
        refine HR.out.mono ?_
        rintro e w1 ⟨rfl, hb⟩
        have HQ := Lib.hid (HM.out.second.below hb)
        have hf := HM.out.first.below hb
        have HQ2 : Hid (∀ x y, BkAt ((w1.setCell ⟨w.heap.size, 3, none⟩ x).setCell ⟨w.heap.size, 4, none⟩ y) (w.heap.size + 1) Bk.zero) := Lib.hid (fun x y => (HQ.out.other ⟨w.heap.size, 3, none⟩ x (by simp)).other ⟨w.heap.size, 4, none⟩ y (by simp))
        have HB1 := Lib.hid (HM.out.below.trans (hb.mono HM.out.below.size))
        have f3 := hf.frozen 3
        have f4 := hf.frozen 4
        have hlt := hf.lt
        clear hb HR HM c0 c1 c2 c3 c4
        obtain ⟨c0, c1, c2, c3, c4⟩ := hf.cells
        clear hf
        go_wp2_with (first | (go_at_call 21; (with_reducible refine (H0.out _).mono ?_); rintro e w2 ⟨rfl, rfl⟩) | (refine wpList_store_bk rfl (.tmp 4) (.tmp 35) rfl (w.heap.size + 1) ⟨b.num, b.den, b.burst, Z, t⟩ Bk.zero rfl rfl (HQ2.out (.int .i64 Z) (.int .i64 t)) ?_) | (refine wpList_store_bk rfl (.tmp 4) (.tmp 35) rfl (w.heap.size + 1) ⟨b.num, b.den, b.burst, M, t⟩ Bk.zero rfl rfl (HQ2.out (.int .i64 M) (.int .i64 t)) ?_))
        rw [HL.out] at HZ
        first
          | exact bodyPost_ret (results_bk2 4 5 rfl _ _ rfl ((HQ2.out (.int .i64 (Z)) (.int .i64 t)).stored ⟨b.num, b.den, b.burst, Z, t⟩)) rfl (HZ.out _ (below_setRow ((HB1.out.setCell (Nat.le_refl _) _).setCell (Nat.le_refl _) _) (Nat.le_succ w.heap.size) _))
          | exact bodyPost_ret (results_bk2 4 5 rfl _ _ rfl ((HQ2.out (.int .i64 (M)) (.int .i64 t)).stored ⟨b.num, b.den, b.burst, M, t⟩)) rfl (HZ.out _ (below_setRow ((HB1.out.setCell (Nat.le_refl _) _).setCell (Nat.le_refl _) _) (Nat.le_succ w.heap.size) _))
end Go.Proofs.Ytkcfhjbppnchoaa
