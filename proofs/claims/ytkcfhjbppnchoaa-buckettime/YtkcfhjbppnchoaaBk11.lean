/- The reference: ITake. -/
import Derived.Test.YtkcfhjbppnchoaaBk10
namespace Go.Proofs.Ytkcfhjbppnchoaa
open Go.RowKit Go.Maps

def offB (b : Bk) (t n : Int) : Bool := decide (t < b.tm) || (decide (1099511627776 < t) || (decide (n < 0) || decide (1048576 < n)))
theorem off_take {b : Bk} {t n : Int} (h : b.right = true) (ho : offB b t n = true) : b.take t n = (Bk.zero, false, 2) := by
  unfold Bk.take
  rw [h]
  cases hj : btw t b.tm 1099511627776 with
  | false => rfl
  | true =>
    cases hn : btw n 0 1048576 with
    | false => rfl
    | true =>
      have a := btw_true.1 hj
      have c := btw_true.1 hn
      unfold offB at ho
      simp only [Bool.or_eq_true, decide_eq_true_iff] at ho
      omega
theorem off_in {b : Bk} {t n : Int} (h : b.right = true) (ho : offB b t n = false) : b.tm ≤ t ∧ t ≤ 1099511627776 ∧ 0 ≤ n ∧ n ≤ 1048576 ∧ b.take t n = ((b.shoot t n).1, (b.shoot t n).2, 0) := by
  unfold offB at ho
  simp only [Bool.or_eq_false_iff, decide_eq_false_iff_not] at ho
  obtain ⟨h1, h2, h3, h4⟩ := ho
  refine ⟨by omega, by omega, by omega, by omega, ?_⟩
  unfold Bk.take
  rw [h, btw_true.2 ⟨show b.tm ≤ t by omega, show t ≤ 1099511627776 by omega⟩, btw_true.2 ⟨show 0 ≤ n by omega, show n ≤ 1048576 by omega⟩]
  rfl

set_option maxRecDepth 100000 in
set_option maxHeartbeats 8000000 in
theorem iTake_no {b : Bk} (hr : b.right = false) (t n : Int) (w : World) :
    Calls Try.prog 18 #[.agg b.cells, .agg #[.int .i64 t, .int .i64 n]] w (Taken w (b.take t n)) := by
  have HX := Lib.hid (box3 w b t n)
  have HR := Lib.hid (fun W => iRight_any b W)
  rw [hr] at HR
  have HZ : Hid (∀ W, Below w.heap.size w W → Taken w (b.take t n) (.returned (.tuple #[.agg Bk.zero.cells, .bool false, .int .i64 1])) W) := Lib.hid (fun W hW => taken_mk (by unfold Bk.take; rw [hr]; rfl) hW)
  clear hr
  generalize Taken w (b.take t n) = D at *
  obtain ⟨⟨c0, c1, c2, c3, c4⟩, ⟨s0, s1⟩, f3, f4⟩ := HX.out.cells
  unfold Bk.cells at HR ⊢
  go_enter Try.func18, Try.ntmps18
  go_upto_region 1 with fail
  change Code.wp _ _ _ _ (three w b t n)
  generalize three w b t n = m at *
  go_wp2_with fail
  refine (HR.out _).mono ?_
  rintro e w1 ⟨rfl, hb⟩
  have HX1 := Lib.hid (HX.out.later hb)
  clear HR hb HX c0 c1 c2 c3 c4 s0 s1 f3 f4
  go_wp2_with (refine wpList_store_bk rfl (.tmp 4) (.tmp 11) rfl (w.heap.size + 1 + 1) Bk.zero Bk.zero rfl rfl HX1.out.third ?_)
  exact bodyPost_ret (results_bk3 4 5 6 rfl _ _ rfl (HX1.out.ended Bk.zero).1) rfl (HZ.out _ (HX1.out.ended Bk.zero).2)

set_option maxRecDepth 100000 in
set_option maxHeartbeats 8000000 in
theorem iTake_off {b : Bk} (hr : b.right = true) (t n : Int) (ho : offB b t n = true) (w : World) :
    Calls Try.prog 18 #[.agg b.cells, .agg #[.int .i64 t, .int .i64 n]] w (Taken w (b.take t n)) := by
  have HX := Lib.hid (box3 w b t n)
  have HR := Lib.hid (fun W => iRight_any b W)
  have HZ : Hid (∀ W, Below w.heap.size w W → Taken w (b.take t n) (.returned (.tuple #[.agg Bk.zero.cells, .bool false, .int .i64 2])) W) := Lib.hid (fun W hW => taken_mk (off_take hr ho) hW)
  rw [hr] at HR
  unfold offB at ho
  simp only [Bool.or_eq_true, decide_eq_true_iff] at ho
  clear hr
  generalize Taken w (b.take t n) = D at *
  obtain ⟨⟨c0, c1, c2, c3, c4⟩, ⟨s0, s1⟩, f3, f4⟩ := HX.out.cells
  unfold Bk.cells at HR ⊢
  have hc : t < b.tm ∨ (¬ t < b.tm ∧ 1099511627776 < t) ∨ (¬ t < b.tm ∧ ¬ 1099511627776 < t ∧ n < 0) ∨ (¬ t < b.tm ∧ ¬ 1099511627776 < t ∧ ¬ n < 0 ∧ 1048576 < n) := by omega
  clear ho
  rcases hc with k1 | ⟨k1, k2⟩ | ⟨k1, k2, k3⟩ | ⟨k1, k2, k3, k4⟩
  all_goals
    (try have k1' : decide (t < b.tm) = false := decide_eq_false k1)
    (try have k2' : decide (1099511627776 < t) = false := decide_eq_false k2)
    (try have k3' : decide (n < 0) = false := decide_eq_false k3)
    go_enter Try.func18, Try.ntmps18
    go_upto_region 1 with fail
    change Code.wp _ _ _ _ (three w b t n)
    generalize three w b t n = m at *
    go_wp2_with fail
    refine (HR.out _).mono ?_
    rintro e w1 ⟨rfl, hb⟩
    have HX1 := Lib.hid (HX.out.later hb)
    clear HR hb HX c0 c1 c2 c3 c4 s0 s1 f3 f4
    obtain ⟨⟨c0, c1, c2, c3, c4⟩, ⟨s0, s1⟩, f3, f4⟩ := HX1.out.cells
    go_wp2_with (refine wpList_store_bk rfl (.tmp 4) (.tmp 32) rfl (w.heap.size + 1 + 1) Bk.zero Bk.zero rfl rfl HX1.out.third ?_)
    exact bodyPost_ret (results_bk3 4 5 6 rfl _ _ rfl (HX1.out.ended Bk.zero).1) rfl (HZ.out _ (HX1.out.ended Bk.zero).2)

set_option maxRecDepth 100000 in
set_option maxHeartbeats 8000000 in
theorem iTake_in {b : Bk} (hr : b.right = true) (t n : Int) (ho : offB b t n = false) (w : World) :
    Calls Try.prog 18 #[.agg b.cells, .agg #[.int .i64 t, .int .i64 n]] w (Taken w (b.take t n)) := by
  have HX := Lib.hid (box3 w b t n)
  have HR := Lib.hid (fun W => iRight_any b W)
  rw [hr] at HR
  obtain ⟨t0, t1, n0, n1, htk⟩ := off_in hr ho
  have hok := Bk.right_iff.1 hr
  have HLV := Lib.hid (fun W => level_any hok t0 t1 W)
  have hle := hok.level t0 t1
  have hmo := hok.most
  have hne := hok.needs n0 n1
  obtain ⟨N, e1, hN⟩ : ∃ N, wrap64 (n * b.den) = N ∧ n * b.den = N := ⟨_, w64 (by omega) (by omega), rfl⟩
  have e1' : wrap64 (n * (b.to t).den) = N := e1
  have hlev : (b.to t).lev = b.level t := rfl
  obtain ⟨Q, e2, hQ⟩ : ∃ Q, wrap64 ((b.to t).lev - N) = Q ∧ (b.to t).lev - N = Q := ⟨_, w64 (by omega) (by omega), rfl⟩
  have HZ : Hid (∀ W, Below w.heap.size w W → N ≤ (b.to t).lev → Taken w (b.take t n) (.returned (.tuple #[.agg (Bk.mk (b.to t).num (b.to t).den (b.to t).burst Q (b.to t).tm).cells, .bool true, .int .i64 0])) W) := Lib.hid (fun W hW h => taken_mk (by
    rw [htk]
    unfold Bk.shoot
    rw [if_pos (by omega), ← hQ, ← hN]
    rfl) hW)
  have HW : Hid (∀ W, Below w.heap.size w W → ¬ N ≤ (b.to t).lev → Taken w (b.take t n) (.returned (.tuple #[.agg (b.to t).cells, .bool false, .int .i64 0])) W) := Lib.hid (fun W hW h => taken_mk (by
    rw [htk]
    unfold Bk.shoot
    rw [if_neg (by omega)]) hW)
  have k1' : decide (t < b.tm) = false := decide_eq_false (by omega)
  have k2' : decide (1099511627776 < t) = false := decide_eq_false (by omega)
  have k3' : decide (n < 0) = false := decide_eq_false (by omega)
  have k4' : decide (1048576 < n) = false := decide_eq_false (by omega)
  have HBT : Hid (∀ W, Box3 w W (Bk.mk b.num b.den b.burst (b.level t) t) t n → Box3 w W (b.to t) t n) := Lib.hid (fun W h => h)
  clear hr ho t0 t1 n0 n1 htk hok hle hmo hne e1 hlev hN hQ
  generalize Taken w (b.take t n) = D at *
  generalize b.to t = bt at *
  obtain ⟨⟨c0, c1, c2, c3, c4⟩, ⟨s0, s1⟩, f3, f4⟩ := HX.out.cells
  unfold Bk.cells at HR HLV ⊢
  go_enter Try.func18, Try.ntmps18
  go_upto_region 1 with fail
  change Code.wp _ _ _ _ (three w b t n)
  generalize three w b t n = m at *
  go_wp2_with fail
  refine (HR.out _).mono ?_
  rintro e m1 ⟨rfl, hb⟩
  have HX1 := Lib.hid (HX.out.later hb)
  clear HR hb HX c0 c1 c2 c3 c4 s0 s1 f3 f4
  obtain ⟨⟨c0, c1, c2, c3, c4⟩, ⟨s0, s1⟩, f3, f4⟩ := HX1.out.cells
  go_upto_region 5 with fail
  clear c0 c1 c2 c3 c4 s0 s1 f3 f4 k1' k2' k3' k4'
  have HS : Hid (∀ W, Below m1.heap.size m1 W → (fun W : World => W.cell? ⟨w.heap.size + 1, 0, none⟩ = some (.int .i64 t) ∧ W.cell? ⟨w.heap.size + 1, 1, none⟩ = some (.int .i64 n)) W) := Lib.hid (fun W hW => (HX1.out.later hW).shot.cells)
  refine wp_region_held_drew (S := (fun W : World => W.cell? ⟨w.heap.size + 1, 0, none⟩ = some (.int .i64 t) ∧ W.cell? ⟨w.heap.size + 1, 1, none⟩ = some (.int .i64 n))) (by kernel_rfl) (HS.out _ (Below.refl _ _).drew) (fun hHeld => ?_)
  obtain ⟨w0, hw0⟩ : ∃ W0, W0 = m1.drew := ⟨_, rfl⟩
  have HB0 : Hid (Below m1.heap.size m1 w0) := Lib.hid (by rw [hw0]; exact (Below.refl _ _).drew)
  rw [← hw0] at hHeld ⊢
  clear hw0
  refine wpAnyH_take (i := 1) (v := ?_) (by simp only [List.getElem?_toArray, List.getElem?_cons_succ, List.getElem?_cons_zero] <;> rfl) (by kernel_rfl) (by kernel_rfl) (by kernel_rfl) (by exact fun _ _ _ h => h) (Or.inl ⟨by rfl, ?_⟩) hHeld ?_
  rotate_left
  · intro w hSw; (try dsimp only at hSw); go_simp; (try with_reducible rfl)
  (try simp only [Act.put, List.setIfInBounds_toArray, List.set_cons_zero, List.set_cons_succ])
  refine wpAnyH_take (i := 2) (v := ?_) (by simp only [List.getElem?_toArray, List.getElem?_cons_succ, List.getElem?_cons_zero] <;> rfl) (by kernel_rfl) (by kernel_rfl) (by kernel_rfl) (by exact fun _ _ _ h => h) (Or.inl ⟨by rfl, ?_⟩) hHeld ?_
  rotate_left
  · intro w hSw; (try dsimp only at hSw); go_simp; (try with_reducible rfl)
  (try simp only [Act.put, List.setIfInBounds_toArray, List.set_cons_zero, List.set_cons_succ])
  refine wpAnyH_take (i := 4) (v := ?_) (by simp only [List.getElem?_toArray, List.getElem?_cons_succ, List.getElem?_cons_zero] <;> rfl) (by kernel_rfl) (by kernel_rfl) (by kernel_rfl) (by exact fun _ _ _ h => h) (Or.inl ⟨by rfl, ?_⟩) hHeld ?_
  rotate_left
  · intro w hSw; (try dsimp only at hSw); go_simp; (try with_reducible rfl)
  (try simp only [Act.put, List.setIfInBounds_toArray, List.set_cons_zero, List.set_cons_succ])
  refine wpAnyH_take (i := 5) (v := ?_) (by simp only [List.getElem?_toArray, List.getElem?_cons_succ, List.getElem?_cons_zero] <;> rfl) (by kernel_rfl) (by kernel_rfl) (by kernel_rfl) (by exact fun _ _ _ h => h) (Or.inl ⟨by rfl, ?_⟩) hHeld ?_
  rotate_left
  · intro w hSw; (try dsimp only at hSw); go_simp; (try with_reducible rfl)
  (try simp only [Act.put, List.setIfInBounds_toArray, List.set_cons_zero, List.set_cons_succ])
  refine wpAnyH_ready (rs := [0]) (by kernel_rfl) (by simp) ?_
  refine AllReadyH.cons (by simp only [List.getElem?_toArray, List.getElem?_cons_zero] <;> rfl) (fun K hK => ?_) AllReadyH.nil
  have HX2 := Lib.hid (HX1.out.later HB0.out)
  obtain ⟨⟨c0, c1, c2, c3, c4⟩, ⟨s0, s1⟩, f3, f4⟩ := HX2.out.cells
  go_simp
  refine hK.out _ _ ?_ (fun hHeld => ?_)
  · exact HS.out _ HB0.out
  clear hK K
  (try simp only [Act.put, List.setIfInBounds_toArray, List.set_cons_zero, List.set_cons_succ])
  clear c0 c1 c2 c3 c4 s0 s1 f3 f4
  refine wpAnyH_ready (rs := [3]) (by kernel_rfl) (by simp) ?_
  refine AllReadyH.cons (by simp only [List.getElem?_toArray, List.getElem?_cons_succ, List.getElem?_cons_zero] <;> rfl) (fun K hK => ?_) AllReadyH.nil
  go_simp
  go_at_call 15
  refine (HLV.out _).mono ?_
  rintro e w1 ⟨rfl, hb1⟩
  have HB1 := Lib.hid (HB0.out.trans (hb1.mono HB0.out.size))
  clear hb1
  go_wp2_with fail
  refine hK.out _ _ ?_ (fun hHeld => ?_)
  · exact HS.out _ HB1.out
  clear hK K
  (try simp only [Act.put, List.setIfInBounds_toArray, List.set_cons_zero, List.set_cons_succ])
  have HX3 := Lib.hid (HX1.out.later HB1.out)
  clear HX2
  obtain ⟨⟨c0, c1, c2, c3, c4⟩, ⟨s0, s1⟩, f3, f4⟩ := HX3.out.cells
  have hlt := HX3.out.first.lt
  refine wpAnyH_take (i := 6) (v := ?_) (by simp only [List.getElem?_toArray, List.getElem?_cons_succ, List.getElem?_cons_zero] <;> rfl) (by kernel_rfl) (by kernel_rfl) (by kernel_rfl) (by exact fun _ _ _ h => h) (Or.inl ⟨by rfl, ?_⟩) hHeld ?_
  rotate_left
  · intro w hSw; (try dsimp only at hSw); go_simp; (try with_reducible rfl)
  (try simp only [Act.put, List.setIfInBounds_toArray, List.set_cons_zero, List.set_cons_succ])
  refine wpAnyH_ready (rs := [7]) (by kernel_rfl) (by simp) ?_
  refine AllReadyH.cons (by simp only [List.getElem?_toArray, List.getElem?_cons_succ, List.getElem?_cons_zero] <;> rfl) (fun K hK => ?_) AllReadyH.nil
  go_simp
  have HX4 := Lib.hid (HX3.out.lev (b.level t))
  refine hK.out _ _ ?_ (fun hHeld => ?_)
  · exact HX4.out.shot.cells
  clear hK K c0 c1 c2 c3 c4 s0 s1 f3 f4 hlt
  (try simp only [Act.put, List.setIfInBounds_toArray, List.set_cons_zero, List.set_cons_succ])
  generalize w1.setCell ⟨w.heap.size, 3, none⟩ (.int .i64 (b.level t)) = w2 at *
  obtain ⟨⟨c0, c1, c2, c3, c4⟩, ⟨s0, s1⟩, f3, f4⟩ := HX4.out.cells
  have hlt := HX4.out.first.lt
  refine wpAnyH_take (i := 8) (v := ?_) (by simp only [List.getElem?_toArray, List.getElem?_cons_succ, List.getElem?_cons_zero] <;> rfl) (by kernel_rfl) (by kernel_rfl) (by kernel_rfl) (by exact fun _ _ _ h => h) (Or.inl ⟨by rfl, ?_⟩) hHeld ?_
  rotate_left
  · intro w hSw; (try dsimp only at hSw); go_simp; (try with_reducible rfl)
  (try simp only [Act.put, List.setIfInBounds_toArray, List.set_cons_zero, List.set_cons_succ])
  refine wpAnyH_ready (rs := [9]) (by kernel_rfl) (by simp) ?_
  refine AllReadyH.cons (by simp only [List.getElem?_toArray, List.getElem?_cons_succ, List.getElem?_cons_zero] <;> rfl) (fun K hK => ?_) AllReadyH.nil
  go_simp
  have HX5 := Lib.hid (HX4.out.tm t)
  refine hK.out _ _ ?_ (fun hHeld => ?_)
  · exact HX5.out.shot.cells
  clear hK K c0 c1 c2 c3 c4 s0 s1 f3 f4 hlt
  (try simp only [Act.put, List.setIfInBounds_toArray, List.set_cons_zero, List.set_cons_succ])
  generalize w2.setCell ⟨w.heap.size, 4, none⟩ (.int .i64 t) = w3 at *
  refine wpAnyH_done (by kernel_rfl) ?_ _
  have HX6 := Lib.hid (HBT.out _ HX5.out)
  clear HX1 HX3 HX4 HX5 HS HLV HBT hHeld HB0 HB1
  generalize b.level t = L at *
  obtain ⟨⟨c0, c1, c2, c3, c4⟩, ⟨s0, s1⟩, f3, f4⟩ := HX6.out.cells
  have hlt := HX6.out.first.lt
  by_cases hc : N ≤ bt.lev
  · have HZ2 := Lib.hid (fun W hW => HZ.out W hW (by omega))
    have HX7 := Lib.hid (HX6.out.lev Q)
    clear HZ HW
    go_upto_region 9 with fail
    clear HX6 hlt c0 c1 c2 c3 c4 s0 s1 f3 f4
    generalize w3.setCell ⟨w.heap.size, 3, none⟩ (.int .i64 Q) = w4 at *
    go_wp2_with (first | (refine wpList_load_bk rfl (.tmp 2) rfl w.heap.size _ rfl HX7.out.first ?_) | (refine wpList_store_bk rfl (.tmp 4) (.tmp 55) rfl (w.heap.size + 1 + 1) _ Bk.zero rfl rfl HX7.out.third ?_))
    exact bodyPost_ret (results_bk3 4 5 6 rfl _ _ rfl (HX7.out.ended _).1) rfl (HZ2.out _ (HX7.out.ended _).2)
  · have HZ2 := Lib.hid (fun W hW => HW.out W hW (by omega))
    clear HZ HW
    go_wp2_with (first | (refine wpList_load_bk rfl (.tmp 2) rfl w.heap.size bt rfl HX6.out.first ?_) | (refine wpList_store_bk rfl (.tmp 4) (.tmp 56) rfl (w.heap.size + 1 + 1) bt Bk.zero rfl rfl HX6.out.third ?_))
    exact bodyPost_ret (results_bk3 4 5 6 rfl _ _ rfl (HX6.out.ended bt).1) rfl (HZ2.out _ (HX6.out.ended bt).2)
theorem iTake_any (b : Bk) (t n : Int) (w : World) :
    Calls Try.prog 18 #[.agg b.cells, .agg #[.int .i64 t, .int .i64 n]] w (Taken w (b.take t n)) := by
  cases hr : b.right with
  | false => exact iTake_no hr t n w
  | true =>
    cases ho : offB b t n with
    | true => exact iTake_off hr t n ho w
    | false => exact iTake_in hr t n ho w
end Go.Proofs.Ytkcfhjbppnchoaa
