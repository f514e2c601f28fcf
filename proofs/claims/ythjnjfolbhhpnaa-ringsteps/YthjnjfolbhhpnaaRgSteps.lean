/- ring.Right and Step answer as the reference does: the walk. -/
import Derived.Test.YthjnjfolbhhpnaaRg9
import Derived.Test.YthjnjfolbhhpnaaRg10
namespace Go.Proofs.Ythjnjfolbhhpnaa
open Go.RowKit Go.Maps

theorem step_small (q : Qu) (k n : Int) : (q.step k n).1.has.length ≤ 400 := by
  unfold Qu.step
  split
  · rename_i h
    split
    · exact ((Qu.right_iff.1 h).act k n).small
    · exact Nat.zero_le _
  · exact Nat.zero_le _

set_option maxRecDepth 100000 in
set_option maxHeartbeats 8000000 in
theorem steps_law {w : World} {q : Qu} {A : Option Addr} (hP : IntsIn w A q.has) (cap : Nat) (hnil : A = none → q.has = []) (hn : q.has.length * 8 ≤ 140737488355328) (k n : Int) :
    Calls Try.prog 3 #[.agg (q.cells A cap), .agg #[.int .i64 k, .int .i64 n]] w fun e w' => e = .returned (.bool true) ∧ Below w.heap.size w w' := by
  have b1 : Below w.heap.size w (w.alloc (.cells (q.cells A cap) 24)) := (Below.refl _ _).alloc (Nat.le_refl _) _
  have b2 := b1.alloc b1.size (.cells #[.int .i64 k, .int .i64 n] 26)
  have q1 : QuAt ((w.alloc (.cells (q.cells A cap) 24)).alloc (.cells #[.int .i64 k, .int .i64 n] 26)) w.heap.size q A cap := by
    unfold QuAt
    rw [Below.heap_alloc _ _ _ (by simp)]
    exact heap_alloc_new w _
  have o1 : ((w.alloc (.cells (q.cells A cap) 24)).alloc (.cells #[.int .i64 k, .int .i64 n] 26)).heap[w.heap.size + 1]? = some (.cells #[.int .i64 k, .int .i64 n] 26 (0, 0)) := by
    have : w.heap.size + 1 = (w.alloc (.cells (q.cells A cap) 24)).heap.size := by simp
    rw [this]
    exact heap_alloc_new _ _
  unfold Qu.cells at *
  obtain ⟨m, hm⟩ : ∃ m, m = (w.alloc (.cells #[.slice A q.has.length cap, .int .i64 q.most, .int .i64 q.mb, .int .i64 q.dr] 24)).alloc (.cells #[.int .i64 k, .int .i64 n] 26) := ⟨_, rfl⟩
  rw [← hm] at b2 q1 o1
  have HM := Lib.hid hm
  have HQ1 := Lib.hid q1
  have HO1 := Lib.hid o1
  have HB := Lib.hid b2
  have HP := Lib.hid (hP.below b2)
  have H1 : Hid (Calls Try.prog 8 #[.agg #[.slice A q.has.length cap, .int .i64 q.most, .int .i64 q.mb, .int .i64 q.dr], .agg #[.int .i64 k, .int .i64 n]] m (Stepped m.heap.size m (q.step k n))) := Lib.hid (step_any (hP.below b2) cap hnil hn k n)
  have H2 : Hid (∀ W, Below m.heap.size m W → Calls Try.prog 9 #[.agg #[.slice A q.has.length cap, .int .i64 q.most, .int .i64 q.mb, .int .i64 q.dr], .agg #[.int .i64 k, .int .i64 n]] W (Stepped W.heap.size W (q.step k n))) := Lib.hid (fun W hW => hStep_any ((hP.below b2).below hW) cap hn k n)
  have H3 : Hid (∀ W, Below m.heap.size m W → Calls Try.prog 10 #[.agg #[.slice A q.has.length cap, .int .i64 q.most, .int .i64 q.mb, .int .i64 q.dr]] W fun e w' => e = .returned (.bool q.right) ∧ Below W.heap.size W w') := Lib.hid (fun W hW => right_any ((hP.below b2).below hW) cap)
  have H4 : Hid (∀ W, Below m.heap.size m W → Calls Try.prog 11 #[.agg #[.slice A q.has.length cap, .int .i64 q.most, .int .i64 q.mb, .int .i64 q.dr]] W fun e w' => e = .returned (.bool q.right) ∧ Below W.heap.size W w') := Lib.hid (fun W hW => hRight_any ((hP.below b2).below hW) cap)
  have HL := Lib.hid (step_small q k n)
  obtain ⟨x0, x1, x2, x3⟩ := q1.cells
  have d0 := cell_of_row _ _ 0 _ _ _ o1
  have d1 := cell_of_row _ _ 1 _ _ _ o1
  clear b1 b2 q1 o1 hP hm hnil hn
  generalize q.step k n = X at *
  obtain ⟨r, num, er⟩ := X
  dsimp only at HL
  generalize q.right = J at *
  go_enter Try.func3, Try.ntmps3
  go_upto_region 1 with fail
  rw [← HM.out]
  go_wp2_with fail
  refine H1.out.mono ?_
  rintro e w1 ⟨A1, c1, rfl, hA, hb⟩
  dsimp only at hA
  have bo : Below w1.heap.size w1 (w1.alloc (.cells (r.cells A1 c1) 24)) := (Below.refl _ _).alloc (Nat.le_refl _) _
  have HA := Lib.hid (And.intro (hA.below bo) (And.intro (QuAt.new w1 r A1 c1) (hb.trans (bo.mono hb.size))))
  obtain ⟨b5, hb5⟩ : ∃ b, w1.heap.size = b := ⟨_, rfl⟩
  clear hA hb bo H1 HM x0 x1 x2 x3 d0 d1
  unfold Qu.cells at *
  go_upto_region 2 with fail
  rw [hb5] at HA
  (try rw [hb5])
  clear hb5
  generalize w1.alloc (.cells #[.slice A1 r.has.length c1, .int .i64 r.most, .int .i64 r.mb, .int .i64 r.dr] 24) = w2 at *
  obtain ⟨x0, x1, x2, x3⟩ := (HQ1.out.below HA.out.2.2).cells
  have o2 := (HA.out.2.2.block _ (Array.getElem?_eq_some_iff.1 HO1.out).1).trans HO1.out
  have d0 := cell_of_row _ _ 0 _ _ _ o2
  have d1 := cell_of_row _ _ 1 _ _ _ o2
  have H2' := Lib.hid (H2.out _ HA.out.2.2)
  clear o2 H2
  go_wp2_with fail
  refine H2'.out.mono ?_
  rintro e w3 ⟨A2, c2, rfl, hA2, hb2⟩
  dsimp only at hA2
  have bo : Below w3.heap.size w3 (w3.alloc (.cells (r.cells A2 c2) 24)) := (Below.refl _ _).alloc (Nat.le_refl _) _
  have HA2 := Lib.hid (And.intro (hA2.below bo) (And.intro (QuAt.new w3 r A2 c2) (hb2.trans (bo.mono hb2.size))))
  obtain ⟨b8, hb8⟩ : ∃ b, w3.heap.size = b := ⟨_, rfl⟩
  clear hA2 hb2 bo H2' x0 x1 x2 x3 d0 d1
  unfold Qu.cells at *
  go_upto_region 3 with fail
  rw [hb8] at HA2
  (try rw [hb8])
  clear hb8
  generalize w3.alloc (.cells #[.slice A2 r.has.length c2, .int .i64 r.most, .int .i64 r.mb, .int .i64 r.dr] 24) = w4 at *
  have HB4 := Lib.hid (HA.out.2.2.trans (HA2.out.2.2.mono HA.out.2.2.size))
  have HS : Hid (∀ W, Below w4.heap.size w4 W → (fun W : World => (W.cell? ⟨w.heap.size, 0, none⟩ = some (.slice A q.has.length cap) ∧ W.cell? ⟨w.heap.size, 1, none⟩ = some (.int .i64 q.most) ∧ W.cell? ⟨w.heap.size, 2, none⟩ = some (.int .i64 q.mb) ∧ W.cell? ⟨w.heap.size, 3, none⟩ = some (.int .i64 q.dr)) ∧ (W.cell? ⟨b5, 0, none⟩ = some (.slice A1 r.has.length c1) ∧ W.cell? ⟨b5, 1, none⟩ = some (.int .i64 r.most) ∧ W.cell? ⟨b5, 2, none⟩ = some (.int .i64 r.mb) ∧ W.cell? ⟨b5, 3, none⟩ = some (.int .i64 r.dr)) ∧ (W.cell? ⟨b8, 0, none⟩ = some (.slice A2 r.has.length c2) ∧ W.cell? ⟨b8, 1, none⟩ = some (.int .i64 r.most) ∧ W.cell? ⟨b8, 2, none⟩ = some (.int .i64 r.mb) ∧ W.cell? ⟨b8, 3, none⟩ = some (.int .i64 r.dr))) W) := Lib.hid (fun W hW => ⟨((HQ1.out.below HB4.out).below hW).cells, ((HA.out.2.1.below HA2.out.2.2).below hW).cells, (HA2.out.2.1.below hW).cells⟩)
  have H3' := Lib.hid (fun W (hW : Below w4.heap.size w4 W) => H3.out W (HB4.out.trans (hW.mono HB4.out.size)))
  have H4' := Lib.hid (fun W (hW : Below w4.heap.size w4 W) => H4.out W (HB4.out.trans (hW.mono HB4.out.size)))
  have H5 : Hid (∀ W, Below w4.heap.size w4 W → Calls Try.prog 12 #[.agg #[.slice A1 r.has.length c1, .int .i64 r.most, .int .i64 r.mb, .int .i64 r.dr], .agg #[.slice A2 r.has.length c2, .int .i64 r.most, .int .i64 r.mb, .int .i64 r.dr]] W fun e w' => e = .returned (.bool true) ∧ Below W.heap.size W w') := Lib.hid (fun W hW => same_any (((HA.out.1.below HA2.out.2.2).ints (by have := HL.out; omega)).below hW) ((HA2.out.1.ints (by have := HL.out; omega)).below hW) c1 c2)
  have HZ := Lib.hid (fun W (hW : Below w4.heap.size w4 W) => (HB.out.trans (HB4.out.mono HB.out.size)).trans (hW.mono (Nat.le_trans HB.out.size HB4.out.size)))
  clear H3 H4 HQ1 HO1 HA HA2 HB4 HB HP HL
  refine wp_region_held_drew (S := (fun W : World => (W.cell? ⟨w.heap.size, 0, none⟩ = some (.slice A q.has.length cap) ∧ W.cell? ⟨w.heap.size, 1, none⟩ = some (.int .i64 q.most) ∧ W.cell? ⟨w.heap.size, 2, none⟩ = some (.int .i64 q.mb) ∧ W.cell? ⟨w.heap.size, 3, none⟩ = some (.int .i64 q.dr)) ∧ (W.cell? ⟨b5, 0, none⟩ = some (.slice A1 r.has.length c1) ∧ W.cell? ⟨b5, 1, none⟩ = some (.int .i64 r.most) ∧ W.cell? ⟨b5, 2, none⟩ = some (.int .i64 r.mb) ∧ W.cell? ⟨b5, 3, none⟩ = some (.int .i64 r.dr)) ∧ (W.cell? ⟨b8, 0, none⟩ = some (.slice A2 r.has.length c2) ∧ W.cell? ⟨b8, 1, none⟩ = some (.int .i64 r.most) ∧ W.cell? ⟨b8, 2, none⟩ = some (.int .i64 r.mb) ∧ W.cell? ⟨b8, 3, none⟩ = some (.int .i64 r.dr)))) (by kernel_rfl) (HS.out _ (Below.refl _ _).drew) (fun hHeld => ?_)
  obtain ⟨w0, hw0⟩ : ∃ W0, W0 = w4.drew := ⟨_, rfl⟩
  have HB0 : Hid (Below w4.heap.size w4 w0) := Lib.hid (by rw [hw0]; exact (Below.refl _ _).drew)
  rw [← hw0] at hHeld ⊢
  clear hw0
  refine wpAnyH_take (i := 0) (v := ?_) (by simp only [List.getElem?_toArray, List.getElem?_cons_zero] <;> rfl) (by kernel_rfl) (by kernel_rfl) (by kernel_rfl) (by exact fun _ _ _ h => h) (Or.inl ⟨by rfl, ?_⟩) hHeld ?_
  rotate_left
  · intro w hSw; (try dsimp only at hSw); go_simp; (try with_reducible rfl)
  (try simp only [Act.put, List.setIfInBounds_toArray, List.set_cons_zero, List.set_cons_succ])
  refine wpAnyH_take (i := 2) (v := ?_) (by simp only [List.getElem?_toArray, List.getElem?_cons_succ, List.getElem?_cons_zero] <;> rfl) (by kernel_rfl) (by kernel_rfl) (by kernel_rfl) (by exact fun _ _ _ h => h) (Or.inl ⟨by rfl, ?_⟩) hHeld ?_
  rotate_left
  · intro w hSw; (try dsimp only at hSw); go_simp; (try with_reducible rfl)
  (try simp only [Act.put, List.setIfInBounds_toArray, List.set_cons_zero, List.set_cons_succ])
  refine wpAnyH_ready (rs := [1]) (by kernel_rfl) (by simp) ?_
  refine AllReadyH.cons (by simp only [List.getElem?_toArray, List.getElem?_cons_succ, List.getElem?_cons_zero] <;> rfl) (fun K hK => ?_) AllReadyH.nil
  go_simp
  go_at_call 10
  refine (H3'.out _ HB0.out).mono ?_
  rintro e w1 ⟨rfl, hb1⟩
  have HB1 := Lib.hid (HB0.out.trans (hb1.mono HB0.out.size))
  clear hb1
  go_wp2_with fail
  refine hK.out _ _ ?_ (fun hHeld => ?_)
  · exact HS.out _ HB1.out
  clear hK K
  (try simp only [Act.put, List.setIfInBounds_toArray, List.set_cons_zero, List.set_cons_succ])
  refine wpAnyH_ready (rs := [3]) (by kernel_rfl) (by simp) ?_
  refine AllReadyH.cons (by simp only [List.getElem?_toArray, List.getElem?_cons_succ, List.getElem?_cons_zero] <;> rfl) (fun K hK => ?_) AllReadyH.nil
  go_simp
  go_at_call 11
  refine (H4'.out _ HB1.out).mono ?_
  rintro e w2 ⟨rfl, hb2⟩
  have HB2 := Lib.hid (HB1.out.trans (hb2.mono HB1.out.size))
  clear hb2
  go_wp2_with fail
  refine hK.out _ _ ?_ (fun hHeld => ?_)
  · exact HS.out _ HB2.out
  clear hK K
  (try simp only [Act.put, List.setIfInBounds_toArray, List.set_cons_zero, List.set_cons_succ])
  refine wpAnyH_take (i := 4) (v := ?_) (by simp only [List.getElem?_toArray, List.getElem?_cons_succ, List.getElem?_cons_zero] <;> rfl) (by kernel_rfl) (by kernel_rfl) (by kernel_rfl) (by exact fun _ _ _ h => h) (Or.inl ⟨by rfl, ?_⟩) hHeld ?_
  rotate_left
  · intro w hSw; (try dsimp only at hSw); go_simp; (try with_reducible rfl)
  (try simp only [Act.put, List.setIfInBounds_toArray, List.set_cons_zero, List.set_cons_succ])
  refine wpAnyH_take (i := 5) (v := ?_) (by simp only [List.getElem?_toArray, List.getElem?_cons_succ, List.getElem?_cons_zero] <;> rfl) (by kernel_rfl) (by kernel_rfl) (by kernel_rfl) (by exact fun _ _ _ h => h) (Or.inl ⟨by rfl, ?_⟩) hHeld ?_
  rotate_left
  · intro w hSw; (try dsimp only at hSw); go_simp; (try with_reducible rfl)
  (try simp only [Act.put, List.setIfInBounds_toArray, List.set_cons_zero, List.set_cons_succ])
  refine wpAnyH_take (i := 6) (v := ?_) (by simp only [List.getElem?_toArray, List.getElem?_cons_succ, List.getElem?_cons_zero] <;> rfl) (by kernel_rfl) (by kernel_rfl) (by kernel_rfl) (by exact fun _ _ _ h => h) (Or.inl ⟨by rfl, ?_⟩) hHeld ?_
  rotate_left
  · intro w hSw; (try dsimp only at hSw); go_simp; (try with_reducible rfl)
  (try simp only [Act.put, List.setIfInBounds_toArray, List.set_cons_zero, List.set_cons_succ])
  refine wpAnyH_take (i := 7) (v := ?_) (by simp only [List.getElem?_toArray, List.getElem?_cons_succ, List.getElem?_cons_zero] <;> rfl) (by kernel_rfl) (by kernel_rfl) (by kernel_rfl) (by exact fun _ _ _ h => h) (Or.inl ⟨by rfl, ?_⟩) hHeld ?_
  rotate_left
  · intro w hSw; (try dsimp only at hSw); go_simp; (try with_reducible rfl)
  (try simp only [Act.put, List.setIfInBounds_toArray, List.set_cons_zero, List.set_cons_succ])
  refine wpAnyH_take (i := 8) (v := ?_) (by simp only [List.getElem?_toArray, List.getElem?_cons_succ, List.getElem?_cons_zero] <;> rfl) (by kernel_rfl) (by kernel_rfl) (by kernel_rfl) (by exact fun _ _ _ h => h) (Or.inl ⟨by rfl, ?_⟩) hHeld ?_
  rotate_left
  · intro w hSw; (try dsimp only at hSw); go_simp; (try with_reducible rfl)
  (try simp only [Act.put, List.setIfInBounds_toArray, List.set_cons_zero, List.set_cons_succ])
  refine wpAnyH_take (i := 9) (v := ?_) (by simp only [List.getElem?_toArray, List.getElem?_cons_succ, List.getElem?_cons_zero] <;> rfl) (by kernel_rfl) (by kernel_rfl) (by kernel_rfl) (by exact fun _ _ _ h => h) (Or.inl ⟨by rfl, ?_⟩) hHeld ?_
  rotate_left
  · intro w hSw; (try dsimp only at hSw); go_simp; (try with_reducible rfl)
  (try simp only [Act.put, List.setIfInBounds_toArray, List.set_cons_zero, List.set_cons_succ])
  refine wpAnyH_take (i := 10) (v := ?_) (by simp only [List.getElem?_toArray, List.getElem?_cons_succ, List.getElem?_cons_zero] <;> rfl) (by kernel_rfl) (by kernel_rfl) (by kernel_rfl) (by exact fun _ _ _ h => h) (Or.inl ⟨by rfl, ?_⟩) hHeld ?_
  rotate_left
  · intro w hSw; (try dsimp only at hSw); go_simp; (try with_reducible rfl)
  (try simp only [Act.put, List.setIfInBounds_toArray, List.set_cons_zero, List.set_cons_succ])
  refine wpAnyH_take (i := 11) (v := ?_) (by simp only [List.getElem?_toArray, List.getElem?_cons_succ, List.getElem?_cons_zero] <;> rfl) (by kernel_rfl) (by kernel_rfl) (by kernel_rfl) (by exact fun _ _ _ h => h) (Or.inl ⟨by rfl, ?_⟩) hHeld ?_
  rotate_left
  · intro w hSw; (try dsimp only at hSw); go_simp; (try with_reducible rfl)
  (try simp only [Act.put, List.setIfInBounds_toArray, List.set_cons_zero, List.set_cons_succ])
  refine wpAnyH_take (i := 12) (v := ?_) (by simp only [List.getElem?_toArray, List.getElem?_cons_succ, List.getElem?_cons_zero] <;> rfl) (by kernel_rfl) (by kernel_rfl) (by kernel_rfl) (by exact fun _ _ _ h => h) (Or.inl ⟨by rfl, ?_⟩) hHeld ?_
  rotate_left
  · intro w hSw; (try dsimp only at hSw); go_simp; (try with_reducible rfl)
  (try simp only [Act.put, List.setIfInBounds_toArray, List.set_cons_zero, List.set_cons_succ])
  refine wpAnyH_take (i := 13) (v := ?_) (by simp only [List.getElem?_toArray, List.getElem?_cons_succ, List.getElem?_cons_zero] <;> rfl) (by kernel_rfl) (by kernel_rfl) (by kernel_rfl) (by exact fun _ _ _ h => h) (Or.inl ⟨by rfl, ?_⟩) hHeld ?_
  rotate_left
  · intro w hSw; (try dsimp only at hSw); go_simp; (try with_reducible rfl)
  (try simp only [Act.put, List.setIfInBounds_toArray, List.set_cons_zero, List.set_cons_succ])
  refine wpAnyH_take (i := 14) (v := ?_) (by simp only [List.getElem?_toArray, List.getElem?_cons_succ, List.getElem?_cons_zero] <;> rfl) (by kernel_rfl) (by kernel_rfl) (by kernel_rfl) (by exact fun _ _ _ h => h) (Or.inl ⟨by rfl, ?_⟩) hHeld ?_
  rotate_left
  · intro w hSw; (try dsimp only at hSw); go_simp; (try with_reducible rfl)
  (try simp only [Act.put, List.setIfInBounds_toArray, List.set_cons_zero, List.set_cons_succ])
  refine wpAnyH_take (i := 15) (v := ?_) (by simp only [List.getElem?_toArray, List.getElem?_cons_succ, List.getElem?_cons_zero] <;> rfl) (by kernel_rfl) (by kernel_rfl) (by kernel_rfl) (by exact fun _ _ _ h => h) (Or.inl ⟨by rfl, ?_⟩) hHeld ?_
  rotate_left
  · intro w hSw; (try dsimp only at hSw); go_simp; (try with_reducible rfl)
  (try simp only [Act.put, List.setIfInBounds_toArray, List.set_cons_zero, List.set_cons_succ])
  refine wpAnyH_take (i := 16) (v := ?_) (by simp only [List.getElem?_toArray, List.getElem?_cons_succ, List.getElem?_cons_zero] <;> rfl) (by kernel_rfl) (by kernel_rfl) (by kernel_rfl) (by exact fun _ _ _ h => h) (Or.inl ⟨by rfl, ?_⟩) hHeld ?_
  rotate_left
  · intro w hSw; (try dsimp only at hSw); go_simp; (try with_reducible rfl)
  (try simp only [Act.put, List.setIfInBounds_toArray, List.set_cons_zero, List.set_cons_succ])
  refine wpAnyH_take (i := 17) (v := ?_) (by simp only [List.getElem?_toArray, List.getElem?_cons_succ, List.getElem?_cons_zero] <;> rfl) (by kernel_rfl) (by kernel_rfl) (by kernel_rfl) (by exact fun _ _ _ h => h) (Or.inl ⟨by rfl, ?_⟩) hHeld ?_
  rotate_left
  · intro w hSw; (try dsimp only at hSw); go_simp; (try with_reducible rfl)
  (try simp only [Act.put, List.setIfInBounds_toArray, List.set_cons_zero, List.set_cons_succ])
  refine wpAnyH_ready (rs := [18]) (by kernel_rfl) (by simp) ?_
  refine AllReadyH.cons (by simp only [List.getElem?_toArray, List.getElem?_cons_succ, List.getElem?_cons_zero] <;> rfl) (fun K hK => ?_) AllReadyH.nil
  go_simp
  go_at_call 12
  refine (H5.out _ HB2.out).mono ?_
  rintro e w3 ⟨rfl, hb3⟩
  have HB3 := Lib.hid (HB2.out.trans (hb3.mono HB2.out.size))
  clear hb3
  go_wp2_with fail
  refine hK.out _ _ ?_ (fun hHeld => ?_)
  · exact HS.out _ HB3.out
  clear hK K
  (try simp only [Act.put, List.setIfInBounds_toArray, List.set_cons_zero, List.set_cons_succ])
  refine wpAnyH_take (i := 19) (v := ?_) (by simp only [List.getElem?_toArray, List.getElem?_cons_succ, List.getElem?_cons_zero] <;> rfl) (by kernel_rfl) (by kernel_rfl) (by kernel_rfl) (by exact fun _ _ _ h => h) (Or.inl ⟨by rfl, ?_⟩) hHeld ?_
  rotate_left
  · intro w hSw; (try dsimp only at hSw); go_simp; (try with_reducible rfl)
  (try simp only [Act.put, List.setIfInBounds_toArray, List.set_cons_zero, List.set_cons_succ])
  refine wpAnyH_take (i := 20) (v := ?_) (by simp only [List.getElem?_toArray, List.getElem?_cons_succ, List.getElem?_cons_zero] <;> rfl) (by kernel_rfl) (by kernel_rfl) (by kernel_rfl) (by exact fun _ _ _ h => h) (Or.inl ⟨by rfl, ?_⟩) hHeld ?_
  rotate_left
  · intro w hSw; (try dsimp only at hSw); go_simp; (try with_reducible rfl)
  (try simp only [Act.put, List.setIfInBounds_toArray, List.set_cons_zero, List.set_cons_succ])
  refine wpAnyH_done (by kernel_rfl) ?_ _
  go_wp2_with fail
  go_ret
  exact ⟨rfl, HZ.out _ HB3.out⟩
end Go.Proofs.Ythjnjfolbhhpnaa
