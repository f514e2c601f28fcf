/- bucket.Full, Take. -/
import Derived.Test.YtkcfhjbppnchoaaBk2
namespace Go.Proofs.Ytkcfhjbppnchoaa
open Go.RowKit Go.Maps

def Bk.made (num den burst : Int) : Bk × Int := if rate num den burst = true then (Bk.full num den burst, 0) else (Bk.zero, 2)
theorem made_right (num den burst : Int) : (Bk.mk num den burst (wrap64 (burst * den)) 0).right = rate num den burst := by
  cases h : rate num den burst with
  | true =>
    have h' := h
    unfold rate at h'
    simp only [Bool.and_eq_true] at h'
    have := wrap_most (b := ⟨num, den, burst, 0, 0⟩) h'.2.1 h'.2.2
    rw [IntWalk.i64_left] at this
    dsimp only at this
    rw [this]
    exact (full_right num den burst).trans h
  | false =>
    rw [Bool.eq_false_iff]
    intro e
    have k := Bk.right_iff.1 e
    have : rate num den burst = true := by
      unfold rate
      simp only [Bool.and_eq_true, btw_true]
      exact ⟨⟨k.n0, k.n1⟩, ⟨k.u0, k.u1⟩, k.d0, k.d1⟩
    rw [h] at this
    cases this
theorem made_cells {num den burst : Int} (h : rate num den burst = true) : (Bk.mk num den burst (wrap64 (burst * den)) 0) = Bk.full num den burst := by
  unfold rate at h
  simp only [Bool.and_eq_true] at h
  have := wrap_most (b := ⟨num, den, burst, 0, 0⟩) h.2.1 h.2.2
  rw [IntWalk.i64_left] at this
  dsimp only at this
  rw [this]
  rfl

/-- Two blocks of noughts. -/
structure Two0 (w m : World) : Prop where
  eq : m = (w.alloc (.cells #[.int .i64 0, .int .i64 0, .int .i64 0, .int .i64 0, .int .i64 0] 23)).alloc (.cells #[.int .i64 0, .int .i64 0, .int .i64 0, .int .i64 0, .int .i64 0] 23)
  below : Below w.heap.size w m
  first : BkAt m w.heap.size Bk.zero
  second : BkAt m (w.heap.size + 1) Bk.zero
theorem two0 (w : World) : ∃ m, Two0 w m := by
  obtain ⟨m, hm⟩ := box2 w Bk.zero
  exact ⟨m, hm.eq, hm.below, hm.first, hm.second⟩

set_option maxRecDepth 100000 in
set_option maxHeartbeats 8000000 in
theorem full_any (num den burst : Int) (w : World) :
    Calls Try.prog 12 #[.int .i64 num, .int .i64 den, .int .i64 burst] w (Filled w (Bk.made num den burst)) := by
  obtain ⟨m, hm⟩ := two0 w
  have HM := Lib.hid hm
  obtain ⟨M, hM⟩ : ∃ M, wrap64 (burst * den) = M := ⟨_, rfl⟩
  have hmr := made_right num den burst
  have hmc := made_cells (num := num) (den := den) (burst := burst)
  rw [hM] at hmr hmc
  obtain ⟨B, hB⟩ : ∃ B, B = Bk.mk num den burst M 0 := ⟨_, rfl⟩
  rw [← hB] at hmr hmc
  have HBE := Lib.hid (show Value.agg #[.int .i64 num, .int .i64 den, .int .i64 burst, .int .i64 M, .int .i64 0] = .agg B.cells by rw [hB]; rfl)
  have HR := Lib.hid (fun W => right_any B W)
  rw [hmr] at HR
  have HF := Lib.hid (hm.second.stored B)
  have HB := Lib.hid (below_setRow hm.below (Nat.le_succ w.heap.size) B.cells)
  have H1 := Lib.hid (show BkAt (m.setRow (w.heap.size + 1) B.cells) w.heap.size Bk.zero from (setRow_other m (w.heap.size + 1) w.heap.size B.cells (by omega)).trans hm.first)
  have HZ : Hid (∀ W, Below w.heap.size w W → rate num den burst = true → Filled w (Bk.made num den burst) (.returned (.tuple #[.agg B.cells, .int .i64 0])) W) := Lib.hid (fun W hW h => by
    unfold Bk.made
    rw [h, hmc h]
    exact ⟨rfl, hW⟩)
  have HN : Hid (∀ W, Below w.heap.size w W → rate num den burst = false → Filled w (Bk.made num den burst) (.returned (.tuple #[.agg Bk.zero.cells, .int .i64 2])) W) := Lib.hid (fun W hW h => by
    unfold Bk.made
    rw [h]
    exact ⟨rfl, hW⟩)
  clear hmr hmc hB hm
  generalize Filled w (Bk.made num den burst) = D at *
  go_enter Try.func12, Try.ntmps12
  go_upto_region 1 with fail
  go_upto_region 2 with (refine wpList_store_bk rfl (.tmp 8) (.tmp 15) rfl (w.heap.size + 1) B Bk.zero rfl HBE.out (by rw [← HM.out.eq]; exact HM.out.second) ?_)
  rw [← HM.out.eq]
  clear HM HBE hM
  have HX := Lib.hid (And.intro HF.out (And.intro HB.out H1.out))
  clear HF HB H1
  generalize m.setRow (w.heap.size + 1) B.cells = m2 at *
  go_wp2_with (refine wpList_load_bk rfl (.tmp 8) rfl (w.heap.size + 1) B rfl HX.out.1 ?_)
  refine (HR.out _).mono ?_
  rintro e w1 ⟨rfl, hb⟩
  have HY := Lib.hid (And.intro (BkAt.below HX.out.1 hb) (And.intro (HX.out.2.1.trans (hb.mono HX.out.2.1.size)) (BkAt.below HX.out.2.2 hb)))
  clear HX HR hb
  cases hr : rate num den burst with
  | true =>
    have HZ2 := Lib.hid (fun W hW => HZ.out W hW hr)
    clear hr HZ HN
    go_wp2_with (first | (refine wpList_load_bk rfl (.tmp 8) rfl (w.heap.size + 1) B rfl HY.out.1 ?_) | (refine wpList_store_bk rfl (.tmp 6) (.tmp 20) rfl w.heap.size B Bk.zero rfl rfl HY.out.2.2 ?_))
    exact bodyPost_ret (results_bk2 6 7 rfl _ _ rfl (HY.out.2.2.stored B)) rfl (HZ2.out _ (below_setRow HY.out.2.1 (Nat.le_refl _) _))
  | false =>
    have HZ2 := Lib.hid (fun W hW => HN.out W hW hr)
    clear hr HZ HN
    go_wp2_with (refine wpList_store_bk rfl (.tmp 6) (.tmp 19) rfl w.heap.size Bk.zero Bk.zero rfl rfl HY.out.2.2 ?_)
    exact bodyPost_ret (results_bk2 6 7 rfl _ _ rfl (HY.out.2.2.stored Bk.zero)) rfl (HZ2.out _ (below_setRow HY.out.2.1 (Nat.le_refl _) _))
end Go.Proofs.Ytkcfhjbppnchoaa
