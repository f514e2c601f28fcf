/- GpsEnds: Wrong, End, Order and Whole answer what the document says. -/
import Derived.Test.YtemoleopabddnaaGpE2
namespace Go.Proofs.Ytemoleopabddnaa
open Go.RowKit Go.Maps

theorem map_get {n k : Nat} {h : Nat → Int} {x : Int} (e : ((List.range n).map h)[k]? = some x) : k < n ∧ x = h k := by
  rw [List.getElem?_map, Option.map_eq_some_iff] at e
  obtain ⟨j, hj, rfl⟩ := e
  obtain ⟨hk, rfl⟩ := List.getElem?_eq_some_iff.1 hj
  rw [List.length_range] at hk
  rw [List.getElem_range]
  exact ⟨hk, rfl⟩
theorem ends_at {xs ys : List Int} {k : Nat} (hk : k < xs.length) : (ends xs ys)[k]? = some (gT (fn xs) (fn ys) xs.length k) := by
  unfold ends
  rw [List.getElem?_map, List.getElem?_range hk]
  rfl

set_option maxRecDepth 100000 in
set_option maxHeartbeats 16000000 in
theorem gpsEnds_no {w : World} {P Q : Option Addr} {xs ys : List Int} (hx : IntsIn w P xs) (hy : IntsIn w Q ys) (cx cy : Nat) {E : Int} (h0 : wrongL xs ys = E) (h12 : E = 1 ∨ E = 2) :
    Calls Try.prog 3 #[.slice P xs.length cx, .slice Q ys.length cy] w fun e w' => e = .returned (.bool true) ∧ Below w.heap.size w w' := by
  have HE := Lib.hid (end_no hx hy h0 h12 cx cy)
  have HO := Lib.hid (fun W (hW : Below w.heap.size w W) => order_no (hx.below hW) (hy.below hW) h0 h12 cx cy)
  have HW := Lib.hid (fun W (hW : Below w.heap.size w W) => whole_no (hx.below hW) (hy.below hW) h0 h12 cx cy)
  have HM := Lib.hid (fun W (hW : Below w.heap.size w W) => mwrong_any (hx.below hW) (hy.below hW) cx cy)
  have HG := Lib.hid (fun W (hW : Below w.heap.size w W) => wrong_any (hx.below hW) (hy.below hW) cx cy)
  rw [h0] at HM HG
  unfold Got at HE HO HW
  have hE : (E != 0) = true := by rcases h12 with rfl | rfl <;> rfl
  have hEE : (E != E) = false := by simp
  clear hx hy h0 h12
  generalize xs.length = n at *
  generalize ys.length = m at *
  simp only [List.length_nil] at HE HO HW
  go_enter Try.func3, Try.ntmps3
  go_wp2_with fail
  refine HE.out.mono ?_
  rintro e w2 ⟨R, c, rfl, _, hb⟩
  have H2 := Lib.hid hb
  clear hb HE
  go_wp2_with fail
  refine (HO.out _ H2.out).mono ?_
  rintro e w3 ⟨R3, c3, rfl, _, hb⟩
  have H3 := Lib.hid (H2.out.trans (hb.mono H2.out.size))
  clear hb HO H2
  go_wp2_with fail
  refine (HW.out _ H3.out).mono ?_
  rintro e w4 ⟨R4, c4, rfl, _, hb⟩
  have H4 := Lib.hid (H3.out.trans (hb.mono H3.out.size))
  clear hb HW H3
  go_wp2_with fail
  refine (HM.out _ H4.out).mono ?_
  rintro e w5 ⟨rfl, q, rfl⟩
  have H5 := Lib.hid (below_drewN H4.out q)
  clear HM H4
  generalize w4.drewN q = w5 at *
  go_wp2_with fail
  refine (HG.out _ H5.out).mono ?_
  rintro e w6 ⟨rfl, rfl⟩
  clear HG
  go_wp2_with fail
  go_ret
  exact ⟨rfl, H5.out⟩
set_option maxRecDepth 100000 in
set_option maxHeartbeats 16000000 in
theorem gpsEnds_ok {w : World} {P Q : Option Addr} {xs ys : List Int} (hx : IntsIn w P xs) (hy : IntsIn w Q ys) (cx cy : Nat) (h0 : wrongL xs ys = 0) (hR : Right xs ys) :
    Calls Try.prog 3 #[.slice P xs.length cx, .slice Q ys.length cy] w fun e w' => e = .returned (.bool true) ∧ Below w.heap.size w w' := by
  have HE := Lib.hid (end_ok hx hy hR h0 cx cy)
  have HO := Lib.hid (fun W (hW : Below w.heap.size w W) => order_ok (hx.below hW) (hy.below hW) hR h0 cx cy)
  have HW := Lib.hid (fun W (hW : Below w.heap.size w W) => whole_ok (hx.below hW) (hy.below hW) hR h0 cx cy)
  have HM := Lib.hid (fun W (hW : Below w.heap.size w W) => mwrong_any (hx.below hW) (hy.below hW) cx cy)
  have HG := Lib.hid (fun W (hW : Below w.heap.size w W) => wrong_any (hx.below hW) (hy.below hW) cx cy)
  have HD := Lib.hid (fun W (hW : Below w.heap.size w W) => mend_any (hx.below hW) (hy.below hW) hR cx cy)
  have HPX := Lib.hid (fun W (hW : Below w.heap.size w W) => hx.below hW)
  have HPY := Lib.hid (fun W (hW : Below w.heap.size w W) => hy.below hW)
  rw [h0] at HM HG
  obtain ⟨n, hn⟩ : ∃ n, xs.length = n := ⟨_, rfl⟩
  have hm : ys.length = n := by rw [hR.len, hn]
  have h16 : n ≤ 16 := by rw [← hn]; exact hR.few
  have HRT := Lib.hid hR
  have HN := Lib.hid (And.intro hn hm)
  have HV : Hid (∀ j, j < n → 1 ≤ fn ys j) := Lib.hid (fun j hj => (hR.weight (by omega)).1)
  unfold Got at HE
  unfold Ordered Got at HO
  unfold Wholed Got at HW
  unfold Ended at HD
  simp only [ends_length, places_length, List.length_map, List.length_range] at HE HO HW
  rw [hn] at HE HO HW HM HG HD ⊢
  rw [hm] at HE HO HW HM HG HD ⊢
  have hmk := run_make_row' (P := Try.prog) 32 4 (.bool false) 1 Try.underlying32 (by kernel_rfl) rfl .i64 .i64 n (by omega) (by omega)
  have HMK := Lib.hid hmk
  clear hx hy hR hn hm h0 hmk
  go_enter Try.func3, Try.ntmps3
  go_wp2_with fail
  refine HE.out.mono ?_
  rintro e w2 ⟨R, c, rfl, hr, hb⟩
  have H2 := Lib.hid (And.intro hb hr)
  clear hb hr HE
  go_wp2_with fail
  refine (HO.out _ H2.out.1).mono ?_
  rintro e w3 ⟨o, hs, R3, c3, rfl, hr, hb⟩
  have H3 := Lib.hid (And.intro (H2.out.1.trans (hb.mono H2.out.1.size)) (And.intro (H2.out.2.below hb) hr))
  have HST := Lib.hid hs
  clear hb hr hs HO H2
  go_wp2_with fail
  refine (HW.out _ H3.out.1).mono ?_
  rintro e w4 ⟨o2, h, hs, hh, R4, c4, rfl, hr, hb⟩
  have H4 := Lib.hid (And.intro (H3.out.1.trans (hb.mono H3.out.1.size)) (And.intro (H3.out.2.1.below hb) (And.intro (H3.out.2.2.below hb) hr)))
  have HWH := Lib.hid (fun p (hp : p < n) => whole_order HST.out hs HV.out hh hp)
  clear hb hr hs hh HW H3
  go_wp2_with fail
  refine (HM.out _ H4.out.1).mono ?_
  rintro e w5 ⟨rfl, q, rfl⟩
  have hbq : Below w4.heap.size w4 (w4.drewN q) := below_drewN (Below.refl _ _) q
  have H5 := Lib.hid (And.intro (below_drewN H4.out.1 q) (And.intro (H4.out.2.1.below hbq) (And.intro (H4.out.2.2.1.below hbq) (H4.out.2.2.2.below hbq))))
  clear HM H4 hbq
  generalize w4.drewN q = w5 at *
  go_wp2_with fail
  refine (HG.out _ H5.out.1).mono ?_
  rintro e w6 ⟨rfl, rfl⟩
  clear HG
  have e1 : ((n : Int) != (n : Int)) = false := by simp
  go_wp2_with fail
  clear e1
  refine (HD.out _ H5.out.1).mono ?_
  rintro e w9 ⟨ge, ep, rfl, hb, hrow, hrat⟩
  have HALL : Hid (∀ W, Below w9.heap.size w9 W → IntsIn W R (ends xs ys) ∧ IntsIn W R3 (places o n) ∧ IntsIn W R4 ((List.range n).map h) ∧ IntsIn W P xs ∧ IntsIn W Q ys ∧ W.rowIs ge 29 n (fun j => .pointer (some ⟨ep j, 0, none⟩)) ∧ ∀ j, j < n → RatV W (ep j) (gT (fn xs) (fn ys) n j) (fn ys j)) := Lib.hid (fun W hW => by
    have hw9 := H5.out.1.trans (hb.mono H5.out.1.size)
    have hw := hw9.trans (hW.mono hw9.size)
    exact ⟨(H5.out.2.1.below hb).below hW, (H5.out.2.2.1.below hb).below hW, (H5.out.2.2.2.below hb).below hW, HPX.out _ hw, HPY.out _ hw, hrow.of_block (hW.block ge hrow.lt), fun j hj => (hrat j hj).below hW⟩)
  have H9 := Lib.hid (H5.out.1.trans (hb.mono H5.out.1.size))
  clear hb hrow hrat HD H5 HPX HPY
  go_wp2_with fail
  go_loopg [95] n (fun z c wr => ∃ j : Nat, c = .int .i64 (j : Int) ∧ j + z = n ∧ Hid (Below w9.heap.size w9 wr))
  case atStart => exact ⟨0, rfl, by omega, Lib.hid (Below.refl _ _)⟩
  case round =>
    obtain ⟨j, rfl, hjk, HI⟩ := hrel
    cases gk with
    | succ k =>
      have hj : j < n := by omega
      have j1 : (j : Int) < (n : Int) := by omega
      obtain ⟨b0, o0, x, rfl, hxx, hcx, hlx⟩ := (HALL.out _ HI.out).1.next (i := j) (by rw [ends_length, HN.out.1]; exact hj)
      obtain ⟨b1, o1, v, rfl, hvv, hcv, hlv⟩ := (HALL.out _ HI.out).2.2.2.2.1.next (i := j) (by rw [HN.out.2]; exact hj)
      have hfx : x = gT (fn xs) (fn ys) n j := by
        rw [ends_at (by rw [HN.out.1]; exact hj), HN.out.1] at hxx
        injection hxx with hxx
        exact hxx.symm
      have hfv := fn_at hvv
      have hxb := gT_lim HRT.out h16 j
      have hvb := HRT.out.weight (k := j) (by rw [HN.out.1]; exact hj)
      rw [← hfx] at hxb
      rw [hfv] at hvb
      have HXV : Hid (x = gT (fn xs) (fn ys) n j ∧ v = fn ys j) := Lib.hid ⟨hfx, hfv.symm⟩
      have HRE : Hid (∀ W, Below wr.heap.size wr W → RatV W (ep j) (gT (fn xs) (fn ys) n j) (fn ys j)) := Lib.hid (fun W hW => (HALL.out _ (HI.out.trans (hW.mono HI.out.size))).2.2.2.2.2.2 j hj)
      have HS : Hid (∀ W, Below wr.heap.size wr W → (fun W : World => W.cell? ⟨b0, o0 + j, none⟩ = some (.int .i64 x) ∧ W.cell? ⟨b1, o1 + j, none⟩ = some (.int .i64 v) ∧ W.cell? ⟨ge, j, none⟩ = some (.pointer (some ⟨ep j, 0, none⟩))) W) := Lib.hid (fun W hW => ⟨(hW.cell (p := ⟨_, _, none⟩) hlx).trans hcx, (hW.cell (p := ⟨_, _, none⟩) hlv).trans hcv, (HALL.out _ (HI.out.trans (hW.mono HI.out.size))).2.2.2.2.2.1.cell hj⟩)
      have HJK := Lib.hid hjk
      clear hxx hvv hfx hfv hcx hcv hlx hlv hjk HALL HST HWH HMK HV H9
      go_upto_region 16 with fail
      refine wp_region_held_drew (S := (fun W : World => W.cell? ⟨b0, o0 + j, none⟩ = some (.int .i64 x) ∧ W.cell? ⟨b1, o1 + j, none⟩ = some (.int .i64 v) ∧ W.cell? ⟨ge, j, none⟩ = some (.pointer (some ⟨ep j, 0, none⟩)))) (by kernel_rfl) (HS.out _ (Below.refl _ _).drew) (fun hHeld => ?_)
      obtain ⟨w0, hw0⟩ : ∃ W0, W0 = wr.drew := ⟨_, rfl⟩
      have HB0 : Hid (Below wr.heap.size wr w0) := Lib.hid (by rw [hw0]; exact (Below.refl _ _).drew)
      rw [← hw0] at hHeld ⊢
      clear hw0
      refine wpAnyH_take (i := 0) (v := ?_) (by simp only [List.getElem?_toArray, List.getElem?_cons_zero] <;> rfl) (by kernel_rfl) (by kernel_rfl) (by kernel_rfl) (by exact fun _ _ _ h => h) (Or.inl ⟨by rfl, ?_⟩) hHeld ?_
      rotate_left
      · intro w hSw; (try dsimp only at hSw); go_simp; (try with_reducible rfl)
      (try simp only [Act.put, List.setIfInBounds_toArray, List.set_cons_zero, List.set_cons_succ])
      refine wpAnyH_take (i := 1) (v := ?_) (by simp only [List.getElem?_toArray, List.getElem?_cons_succ, List.getElem?_cons_zero] <;> rfl) (by kernel_rfl) (by kernel_rfl) (by kernel_rfl) (by exact fun _ _ _ h => h) (Or.inl ⟨by rfl, ?_⟩) hHeld ?_
      rotate_left
      · intro w hSw; (try dsimp only at hSw); go_simp; (try with_reducible rfl)
      (try simp only [Act.put, List.setIfInBounds_toArray, List.set_cons_zero, List.set_cons_succ])
      refine wpAnyH_take (i := 2) (v := ?_) (by simp only [List.getElem?_toArray, List.getElem?_cons_succ, List.getElem?_cons_zero] <;> rfl) (by kernel_rfl) (by kernel_rfl) (by kernel_rfl) (by exact fun _ _ _ h => h) (Or.inl ⟨by rfl, ?_⟩) hHeld ?_
      rotate_left
      · intro w hSw; (try dsimp only at hSw); go_simp; (try with_reducible rfl)
      (try simp only [Act.put, List.setIfInBounds_toArray, List.set_cons_zero, List.set_cons_succ])
      refine wpAnyH_take (i := 3) (v := ?_) (by simp only [List.getElem?_toArray, List.getElem?_cons_succ, List.getElem?_cons_zero] <;> rfl) (by kernel_rfl) (by kernel_rfl) (by kernel_rfl) (by exact fun _ _ _ h => h) (Or.inl ⟨by rfl, ?_⟩) hHeld ?_
      rotate_left
      · intro w hSw; (try dsimp only at hSw); go_simp; (try with_reducible rfl)
      (try simp only [Act.put, List.setIfInBounds_toArray, List.set_cons_zero, List.set_cons_succ])
      refine wpAnyH_take (i := 4) (v := ?_) (by simp only [List.getElem?_toArray, List.getElem?_cons_succ, List.getElem?_cons_zero] <;> rfl) (by kernel_rfl) (by kernel_rfl) (by kernel_rfl) (by exact fun _ _ _ h => h) (Or.inl ⟨by rfl, ?_⟩) hHeld ?_
      rotate_left
      · intro w hSw; (try dsimp only at hSw); go_simp; (try with_reducible rfl)
      (try simp only [Act.put, List.setIfInBounds_toArray, List.set_cons_zero, List.set_cons_succ])
      refine wpAnyH_take (i := 5) (v := ?_) (by simp only [List.getElem?_toArray, List.getElem?_cons_succ, List.getElem?_cons_zero] <;> rfl) (by kernel_rfl) (by kernel_rfl) (by kernel_rfl) (by exact fun _ _ _ h => h) (Or.inl ⟨by rfl, ?_⟩) hHeld ?_
      rotate_left
      · intro w hSw; (try dsimp only at hSw); go_simp; (try with_reducible rfl)
      (try simp only [Act.put, List.setIfInBounds_toArray, List.set_cons_zero, List.set_cons_succ])
      refine wpAnyH_take (i := 6) (v := ?_) (by simp only [List.getElem?_toArray, List.getElem?_cons_succ, List.getElem?_cons_zero] <;> rfl) (by kernel_rfl) (by kernel_rfl) (by kernel_rfl) (by exact fun _ _ _ h => h) (Or.inl ⟨by rfl, ?_⟩) hHeld ?_
      rotate_left
      · intro w hSw; (try dsimp only at hSw); go_simp; (try with_reducible rfl)
      (try simp only [Act.put, List.setIfInBounds_toArray, List.set_cons_zero, List.set_cons_succ])
      refine wpAnyH_take (i := 7) (v := ?_) (by simp only [List.getElem?_toArray, List.getElem?_cons_succ, List.getElem?_cons_zero] <;> rfl) (by kernel_rfl) (by kernel_rfl) (by kernel_rfl) (by exact fun _ _ _ h => h) (Or.inl ⟨by rfl, ?_⟩) hHeld ?_
      rotate_left
      · intro w hSw; (try dsimp only at hSw); go_simp; (try with_reducible rfl)
      (try simp only [Act.put, List.setIfInBounds_toArray, List.set_cons_zero, List.set_cons_succ])
      refine wpAnyH_take (i := 9) (v := ?_) (by simp only [List.getElem?_toArray, List.getElem?_cons_succ, List.getElem?_cons_zero] <;> rfl) (by kernel_rfl) (by kernel_rfl) (by kernel_rfl) (by exact fun _ _ _ h => h) (Or.inl ⟨by rfl, ?_⟩) hHeld ?_
      rotate_left
      · intro w hSw; (try dsimp only at hSw); go_simp; (try with_reducible rfl)
      (try simp only [Act.put, List.setIfInBounds_toArray, List.set_cons_zero, List.set_cons_succ])
      refine wpAnyH_take (i := 10) (v := ?_) (by simp only [List.getElem?_toArray, List.getElem?_cons_succ, List.getElem?_cons_zero] <;> rfl) (by kernel_rfl) (by kernel_rfl) (by kernel_rfl) (by exact fun _ _ _ h => h) (Or.inl ⟨by rfl, ?_⟩) hHeld ?_
      rotate_left
      · intro w hSw; (try dsimp only at hSw); go_simp; (try with_reducible rfl)
      (try simp only [Act.put, List.setIfInBounds_toArray, List.set_cons_zero, List.set_cons_succ])
      refine wpAnyH_take (i := 11) (v := ?_) (by simp only [List.getElem?_toArray, List.getElem?_cons_succ, List.getElem?_cons_zero] <;> rfl) (by kernel_rfl) (by kernel_rfl) (by kernel_rfl) (by exact fun _ _ _ h => h) (Or.inl ⟨by rfl, ?_⟩) hHeld ?_
      rotate_left
      · intro w hSw; (try dsimp only at hSw); go_simp; (try with_reducible rfl)
      (try simp only [Act.put, List.setIfInBounds_toArray, List.set_cons_zero, List.set_cons_succ])
      refine wpAnyH_take (i := 12) (v := ?_) (by simp only [List.getElem?_toArray, List.getElem?_cons_succ, List.getElem?_cons_zero] <;> rfl) (by kernel_rfl) (by kernel_rfl) (by kernel_rfl) (by exact fun _ _ _ h => h) (Or.inl ⟨by rfl, ?_⟩) hHeld ?_
      rotate_left
      · intro w hSw; (try dsimp only at hSw); go_simp; (try with_reducible rfl)
      (try simp only [Act.put, List.setIfInBounds_toArray, List.set_cons_zero, List.set_cons_succ])
      refine wpAnyH_ready (rs := [8]) (by kernel_rfl) (by simp) ?_
      refine AllReadyH.cons (by simp only [List.getElem?_toArray, List.getElem?_cons_succ, List.getElem?_cons_zero] <;> rfl) (fun K hK => ?_) AllReadyH.nil
      go_simp
      go_at_call 15
      refine (vnew x v _ (by omega) (by omega) (by omega) (by omega)).mono ?_
      rintro e w6 ⟨g7, hg7, rfl, hb6, hr6⟩
      have HB6 := Lib.hid (And.intro (HB0.out.trans (hb6.mono HB0.out.size)) hr6)
      clear hg7 hb6 hr6
      go_wp2_with fail
      refine hK.out _ _ ?_ (fun hHeld => ?_)
      · exact HS.out _ HB6.out.1
      clear hK K
      (try simp only [Act.put, List.setIfInBounds_toArray, List.set_cons_zero, List.set_cons_succ])
      refine wpAnyH_ready (rs := [13]) (by kernel_rfl) (by simp) ?_
      refine AllReadyH.cons (by simp only [List.getElem?_toArray, List.getElem?_cons_succ, List.getElem?_cons_zero] <;> rfl) (fun K hK => ?_) AllReadyH.nil
      go_simp
      go_at_call 16
      have hcm := ends_cmp HRT.out h16 (i := j) (j := j) (by have := HB6.out.2; rw [HXV.out.1, HXV.out.2] at this; exact this) (HRE.out _ HB6.out.1)
      rw [cmp_self] at hcm
      refine hcm.mono ?_
      rintro e w7 ⟨rfl, hb7⟩
      have HB7 := Lib.hid (HB6.out.1.trans (hb7.mono HB6.out.1.size))
      clear hb7 hcm
      go_wp2_with fail
      refine hK.out _ _ ?_ (fun hHeld => ?_)
      · exact HS.out _ HB7.out
      clear hK K
      (try simp only [Act.put, List.setIfInBounds_toArray, List.set_cons_zero, List.set_cons_succ])
      refine wpAnyH_take (i := 14) (v := ?_) (by simp only [List.getElem?_toArray, List.getElem?_cons_succ, List.getElem?_cons_zero] <;> rfl) (by kernel_rfl) (by kernel_rfl) (by kernel_rfl) (by exact fun _ _ _ h => h) (Or.inl ⟨by rfl, ?_⟩) hHeld ?_
      rotate_left
      · intro w hSw; (try dsimp only at hSw); go_simp; (try with_reducible rfl)
      (try simp only [Act.put, List.setIfInBounds_toArray, List.set_cons_zero, List.set_cons_succ])
      refine wpAnyH_done (by kernel_rfl) ?_ _
      clear HS HRE HXV HB6
      go_wp2_with fail
      go_roundg k
      case measure => omega
      case rel => exact ⟨j + 1, by go_num, by have := HJK.out; omega, Lib.hid (HI.out.trans (HB7.out.mono HI.out.size))⟩
    | zero =>
      obtain rfl : n = j := by omega
      have hmk := HMK.out
      go_upto_region 21 with fail
      have HH0 := Lib.hid (HadI.start HI.out n o)
      generalize wr.alloc (.cells (madeCells #[.bool false] n) 4) = w11 at *
      obtain ⟨g, hg⟩ : ∃ g, wr.heap.size = g := ⟨_, rfl⟩
      rw [hg] at HH0 ⊢
      clear hg hmk HI HMK hjk
      go_wp2_with fail
      go_loopg [15, 118] n (fun z s c wr => ∃ (i : Nat) (S : Int), s = .int .i64 S ∧ c = .int .i64 (i : Int) ∧ i + z = n ∧ Hid (HadI w9 wr g n i o ∧ S = su (fun q => fn xs (o q)) i))
      case atStart => exact ⟨0, 0, rfl, rfl, by omega, Lib.hid ⟨HH0.out, rfl⟩⟩
      case round =>
        clear HH0
        obtain ⟨i, S, rfl, rfl, hik, HI⟩ := hrel
        cases gk with
        | zero =>
          have HB := Lib.hid (H9.out.trans (HI.out.1.below.mono H9.out.size))
          obtain rfl : i = n := by omega
          clear HI HALL HST HWH HV HRT HN
          go_wp2_with fail
          go_ret
          exact ⟨rfl, HB.out⟩
        | succ k =>
          have hi : i < n := by omega
          have i1 : (i : Int) < (n : Int) := by omega
          obtain ⟨bo, oo, t0, rfl, ht, hct0, hlo⟩ := (HALL.out _ HI.out.1.below).2.1.next (i := i) (by rw [places_length]; exact hi)
          obtain ⟨_, rfl⟩ := places_at ht
          obtain ⟨K, hK⟩ : ∃ K, o i = K := ⟨_, rfl⟩
          have HKO := Lib.hid hK
          have hlk : K < n := by rw [← hK]; exact HST.out.low i hi
          have HKN := Lib.hid hlk
          obtain ⟨f0, f1⟩ := HI.out.1.seat (k := K) hlk (by rw [← hK]; exact HST.out.fresh hi)
          have HPT := Lib.hid HI.out.1.put
          have HWK : Hid (h K = su (fun q => fn xs (o q)) (i + 1)) := Lib.hid (by rw [← hK]; exact HWH.out i hi)
          have HSI := Lib.hid HI.out.2
          have HSB : Hid (0 ≤ S ∧ S ≤ 16777216) := Lib.hid (by
            have h1 : su (fun q => fn xs (o q)) i ≤ 1048576 * (i : Int) := su_bound fun k _ => (HRT.out.want0 (o k)).2
            have h2 : 0 ≤ su (fun q => fn xs (o q)) i := su_nonneg fun k _ => (HRT.out.want0 (o k)).1
            rw [HI.out.2]
            omega)
          have k1 : (K : Int) < (n : Int) := by omega
          have k2 : ¬ (K : Int) < 0 := by omega
          have k3 : ¬ n ≤ K := by omega
          rw [hK] at HPT hct0
          clear hK ht HI
          by_cases c0 : i = 0
          · subst c0
            have HX := HPT
            rw [Nat.add_zero] at hct0
            clear HPT HST HWH hlo
            go_upto_region 27 with fail
            clear f0 f1 hct0
            generalize wr.setCell ⟨g, K, none⟩ (.bool true) = wk at *
            have HH := Lib.hid (HX.out.later (Below.refl _ _))
            obtain ⟨bx, ox, u, rfl, hu, hcu, _⟩ := (HALL.out _ HH.out.below).2.2.2.1.next (i := K) (by rw [HN.out.1]; exact HKN.out)
            obtain ⟨bw, ow, t, rfl, ht, hct, _⟩ := (HALL.out _ HH.out.below).2.2.1.next (i := K) (by simpa using HKN.out)
            have hfu := fn_at hu
            have hft := (map_get ht).2
            rw [HWK.out] at hft
            have hub := HRT.out.want0 K
            rw [hfu] at hub
            have hsb := HSB.out
            have hs1 : t = S + u := by rw [hft, su_succ, ← HSI.out, HKO.out, hfu]
            have q1 : wrap64 (S + u) = t := by rw [hs1]; exact IntWalk.wrap64_in _ (by constructor <;> omega)
            have q2 : (t != t) = false := by simp
            have HS2 : Hid (t = su (fun q => fn xs (o q)) (0 + 1)) := Lib.hid hft
            have HIK := Lib.hid hik
            clear hu ht hfu hft hub hsb hs1 hik HALL HN HRT HKN HWK HSB HSI HX HKO HV
            go_wp2_with fail
            go_roundg k
            case measure => omega
            case rel => exact ⟨0 + 1, t, by first | rfl | rw [q1], by go_num, by have := HIK.out; omega, Lib.hid ⟨HH.out, HS2.out⟩⟩
          · obtain ⟨j, hij⟩ : ∃ j, i = j + 1 := ⟨i - 1, by omega⟩
            have HPR := Lib.hid (HST.out.inc j i (by omega) hi)
            have hlj := HST.out.low j (by omega)
            have hoc := order_cmp HV.out hlj hlk (by rw [← HKO.out]; exact HPR.out)
            have HLJ := Lib.hid hlj
            have m1 : (o j : Int) < (n : Int) := by omega
            have m2 : IntKind.i64.wrap ((i : Int) - 1) = (j : Int) := by rw [wrap_in (by omega) (by omega)]; omega
            have m3 : wrap64 ((i : Int) - 1) = (j : Int) := by rw [IntWalk.wrap64_in _ (by constructor <;> omega)]; omega
            have m4 : (j : Int) < (n : Int) := by omega
            have m5 : 0 < i := by omega
            have HIJ := Lib.hid hij
            clear c0 hij
            have HX := HPT
            obtain ⟨X, hX⟩ : ∃ X, cmpI (gT (fn xs) (fn ys) n (o j) * fn ys K) (gT (fn xs) (fn ys) n K * fn ys (o j)) = X := ⟨_, rfl⟩
            have HCM : Hid (∀ W, Below (wr.setCell ⟨g, K, none⟩ (.bool true)).heap.size (wr.setCell ⟨g, K, none⟩ (.bool true)) W → Calls Try.prog 16 #[.pointer (some ⟨ep (o j), 0, none⟩), .pointer (some ⟨ep K, 0, none⟩)] W fun e w' => e = .returned (.int .i64 X) ∧ Below W.heap.size W w') := Lib.hid (fun W hW => by
              have ha := (HALL.out _ (HX.out.below.trans (hW.mono HX.out.below.size))).2.2.2.2.2.2
              have := ends_cmp HRT.out h16 (ha (o j) HLJ.out) (ha K HKN.out)
              rwa [hX] at this)
            have HS : Hid (∀ W, Below (wr.setCell ⟨g, K, none⟩ (.bool true)).heap.size (wr.setCell ⟨g, K, none⟩ (.bool true)) W → (fun W : World => W.cell? ⟨bo, oo + j, none⟩ = some (.int .i64 (o j : Int)) ∧ W.cell? ⟨ge, o j, none⟩ = some (.pointer (some ⟨ep (o j), 0, none⟩)) ∧ W.cell? ⟨ge, K, none⟩ = some (.pointer (some ⟨ep K, 0, none⟩))) W) := Lib.hid (fun W hW => by
              have ha := HALL.out _ (HX.out.below.trans (hW.mono HX.out.below.size))
              have hrow := ha.2.2.2.2.2.1
              refine ⟨?_, hrow.cell HLJ.out, hrow.cell HKN.out⟩
              obtain ⟨b, off, e, _, hc⟩ := ha.2.1.at_ (by rw [places_length]; omega)
              injection e with e
              simp only [Addr.mk.injEq, and_true] at e
              obtain ⟨rfl, rfl⟩ := e
              refine hc j _ ?_
              unfold places
              rw [List.getElem?_map, List.getElem?_range (by have := HIJ.out; omega)]
              rfl)
            rw [hX] at hoc
            have HOC := Lib.hid hoc
            clear hX hoc hlj HPT HST HWH hlo HPR
            go_upto_region 28 with fail
            clear f0 f1 hct0
            generalize wr.setCell ⟨g, K, none⟩ (.bool true) = wk at *
            refine wp_region_held_drew (S := (fun W : World => W.cell? ⟨bo, oo + j, none⟩ = some (.int .i64 (o j : Int)) ∧ W.cell? ⟨ge, o j, none⟩ = some (.pointer (some ⟨ep (o j), 0, none⟩)) ∧ W.cell? ⟨ge, K, none⟩ = some (.pointer (some ⟨ep K, 0, none⟩)))) (by kernel_rfl) (HS.out _ (Below.refl _ _).drew) (fun hHeld => ?_)
            obtain ⟨w0, hw0⟩ : ∃ W0, W0 = wk.drew := ⟨_, rfl⟩
            have HB0 : Hid (Below wk.heap.size wk w0) := Lib.hid (by rw [hw0]; exact (Below.refl _ _).drew)
            rw [← hw0] at hHeld ⊢
            clear hw0
            refine wpAnyH_take (i := 0) (v := ?_) (by simp only [List.getElem?_toArray, List.getElem?_cons_zero] <;> rfl) (by kernel_rfl) (by kernel_rfl) (by kernel_rfl) (by exact fun _ _ _ h => h) (Or.inl ⟨by rfl, ?_⟩) hHeld ?_
            rotate_left
            · intro w hSw; (try dsimp only at hSw); go_simp; (try with_reducible rfl)
            (try simp only [Act.put, List.setIfInBounds_toArray, List.set_cons_zero, List.set_cons_succ])
            refine wpAnyH_take (i := 1) (v := ?_) (by simp only [List.getElem?_toArray, List.getElem?_cons_succ, List.getElem?_cons_zero] <;> rfl) (by kernel_rfl) (by kernel_rfl) (by kernel_rfl) (by exact fun _ _ _ h => h) (Or.inl ⟨by rfl, ?_⟩) hHeld ?_
            rotate_left
            · intro w hSw; (try dsimp only at hSw); go_simp; (try with_reducible rfl)
            (try simp only [Act.put, List.setIfInBounds_toArray, List.set_cons_zero, List.set_cons_succ])
            refine wpAnyH_take (i := 2) (v := ?_) (by simp only [List.getElem?_toArray, List.getElem?_cons_succ, List.getElem?_cons_zero] <;> rfl) (by kernel_rfl) (by kernel_rfl) (by kernel_rfl) (by exact fun _ _ _ h => h) (Or.inl ⟨by rfl, ?_⟩) hHeld ?_
            rotate_left
            · intro w hSw; (try dsimp only at hSw); go_simp; (try with_reducible rfl)
            (try simp only [Act.put, List.setIfInBounds_toArray, List.set_cons_zero, List.set_cons_succ])
            refine wpAnyH_take (i := 3) (v := ?_) (by simp only [List.getElem?_toArray, List.getElem?_cons_succ, List.getElem?_cons_zero] <;> rfl) (by kernel_rfl) (by kernel_rfl) (by kernel_rfl) (by exact fun _ _ _ h => h) (Or.inl ⟨by rfl, ?_⟩) hHeld ?_
            rotate_left
            · intro w hSw; (try dsimp only at hSw); go_simp; (try with_reducible rfl)
            (try simp only [Act.put, List.setIfInBounds_toArray, List.set_cons_zero, List.set_cons_succ])
            refine wpAnyH_take (i := 4) (v := ?_) (by simp only [List.getElem?_toArray, List.getElem?_cons_succ, List.getElem?_cons_zero] <;> rfl) (by kernel_rfl) (by kernel_rfl) (by kernel_rfl) (by exact fun _ _ _ h => h) (Or.inl ⟨by rfl, ?_⟩) hHeld ?_
            rotate_left
            · intro w hSw; (try dsimp only at hSw); go_simp; (try with_reducible rfl)
            (try simp only [Act.put, List.setIfInBounds_toArray, List.set_cons_zero, List.set_cons_succ])
            refine wpAnyH_take (i := 5) (v := ?_) (by simp only [List.getElem?_toArray, List.getElem?_cons_succ, List.getElem?_cons_zero] <;> rfl) (by kernel_rfl) (by kernel_rfl) (by kernel_rfl) (by exact fun _ _ _ h => h) (Or.inl ⟨by rfl, ?_⟩) hHeld ?_
            rotate_left
            · intro w hSw; (try dsimp only at hSw); go_simp; (try with_reducible rfl)
            (try simp only [Act.put, List.setIfInBounds_toArray, List.set_cons_zero, List.set_cons_succ])
            refine wpAnyH_take (i := 6) (v := ?_) (by simp only [List.getElem?_toArray, List.getElem?_cons_succ, List.getElem?_cons_zero] <;> rfl) (by kernel_rfl) (by kernel_rfl) (by kernel_rfl) (by exact fun _ _ _ h => h) (Or.inl ⟨by rfl, ?_⟩) hHeld ?_
            rotate_left
            · intro w hSw; (try dsimp only at hSw); go_simp; (try with_reducible rfl)
            (try simp only [Act.put, List.setIfInBounds_toArray, List.set_cons_zero, List.set_cons_succ])
            refine wpAnyH_take (i := 7) (v := ?_) (by simp only [List.getElem?_toArray, List.getElem?_cons_succ, List.getElem?_cons_zero] <;> rfl) (by kernel_rfl) (by kernel_rfl) (by kernel_rfl) (by exact fun _ _ _ h => h) (Or.inl ⟨by rfl, ?_⟩) hHeld ?_
            rotate_left
            · intro w hSw; (try dsimp only at hSw); go_simp; (try with_reducible rfl)
            (try simp only [Act.put, List.setIfInBounds_toArray, List.set_cons_zero, List.set_cons_succ])
            refine wpAnyH_take (i := 8) (v := ?_) (by simp only [List.getElem?_toArray, List.getElem?_cons_succ, List.getElem?_cons_zero] <;> rfl) (by kernel_rfl) (by kernel_rfl) (by kernel_rfl) (by exact fun _ _ _ h => h) (Or.inl ⟨by rfl, ?_⟩) hHeld ?_
            rotate_left
            · intro w hSw; (try dsimp only at hSw); go_simp; (try with_reducible rfl)
            (try simp only [Act.put, List.setIfInBounds_toArray, List.set_cons_zero, List.set_cons_succ])
            refine wpAnyH_take (i := 9) (v := ?_) (by simp only [List.getElem?_toArray, List.getElem?_cons_succ, List.getElem?_cons_zero] <;> rfl) (by kernel_rfl) (by kernel_rfl) (by kernel_rfl) (by exact fun _ _ _ h => h) (Or.inl ⟨by rfl, ?_⟩) hHeld ?_
            rotate_left
            · intro w hSw; (try dsimp only at hSw); go_simp; (try with_reducible rfl)
            (try simp only [Act.put, List.setIfInBounds_toArray, List.set_cons_zero, List.set_cons_succ])
            refine wpAnyH_take (i := 10) (v := ?_) (by simp only [List.getElem?_toArray, List.getElem?_cons_succ, List.getElem?_cons_zero] <;> rfl) (by kernel_rfl) (by kernel_rfl) (by kernel_rfl) (by exact fun _ _ _ h => h) (Or.inl ⟨by rfl, ?_⟩) hHeld ?_
            rotate_left
            · intro w hSw; (try dsimp only at hSw); go_simp; (try with_reducible rfl)
            (try simp only [Act.put, List.setIfInBounds_toArray, List.set_cons_zero, List.set_cons_succ])
            refine wpAnyH_take (i := 11) (v := ?_) (by simp only [List.getElem?_toArray, List.getElem?_cons_succ, List.getElem?_cons_zero] <;> rfl) (by kernel_rfl) (by kernel_rfl) (by kernel_rfl) (by exact fun _ _ _ h => h) (Or.inl ⟨by rfl, ?_⟩) hHeld ?_
            rotate_left
            · intro w hSw; (try dsimp only at hSw); go_simp; (try with_reducible rfl)
            (try simp only [Act.put, List.setIfInBounds_toArray, List.set_cons_zero, List.set_cons_succ])
            refine wpAnyH_ready (rs := [12]) (by kernel_rfl) (by simp) ?_
            refine AllReadyH.cons (by simp only [List.getElem?_toArray, List.getElem?_cons_succ, List.getElem?_cons_zero] <;> rfl) (fun K hK => ?_) AllReadyH.nil
            go_simp
            go_at_call 16
            refine (HCM.out _ HB0.out).mono ?_
            rintro e w7 ⟨rfl, hb7⟩
            have HB7 := Lib.hid (HB0.out.trans (hb7.mono HB0.out.size))
            clear hb7
            go_wp2_with fail
            refine hK.out _ _ ?_ (fun hHeld => ?_)
            · exact HS.out _ HB7.out
            clear hK K
            (try simp only [Act.put, List.setIfInBounds_toArray, List.set_cons_zero, List.set_cons_succ])
            refine wpAnyH_take (i := 13) (v := ?_) (by simp only [List.getElem?_toArray, List.getElem?_cons_succ, List.getElem?_cons_zero] <;> rfl) (by kernel_rfl) (by kernel_rfl) (by kernel_rfl) (by exact fun _ _ _ h => h) (Or.inl ⟨by rfl, ?_⟩) hHeld ?_
            rotate_left
            · intro w hSw; (try dsimp only at hSw); go_simp; (try with_reducible rfl)
            (try simp only [Act.put, List.setIfInBounds_toArray, List.set_cons_zero, List.set_cons_succ])
            refine wpAnyH_done (by kernel_rfl) ?_ _
            have hcj := (HS.out _ HB7.out).1
            have x1 : ¬ 0 < X := by have := HOC.out.1; omega
            clear HS HCM
            by_cases x2 : X = 0
            · have x3 : ¬ (K : Int) < (o j : Int) := by have := HOC.out.2 x2; omega
              have x4 : ¬ K < o j := by omega
              have x5 : (X == 0) = true := by simpa using x2
              clear HOC
              subst x2
              go_upto_region 31 with fail
              clear hcj
              have HH := Lib.hid (HX.out.later (HB7.out))
              obtain ⟨bx, ox, u, rfl, hu, hcu, _⟩ := (HALL.out _ HH.out.below).2.2.2.1.next (i := K) (by rw [HN.out.1]; exact HKN.out)
              obtain ⟨bw, ow, t, rfl, ht, hct, _⟩ := (HALL.out _ HH.out.below).2.2.1.next (i := K) (by simpa using HKN.out)
              have hfu := fn_at hu
              have hft := (map_get ht).2
              rw [HWK.out] at hft
              have hub := HRT.out.want0 K
              rw [hfu] at hub
              have hsb := HSB.out
              have hs1 : t = S + u := by rw [hft, su_succ, ← HSI.out, HKO.out, hfu]
              have q1 : wrap64 (S + u) = t := by rw [hs1]; exact IntWalk.wrap64_in _ (by constructor <;> omega)
              have q2 : (t != t) = false := by simp
              have HS2 : Hid (t = su (fun q => fn xs (o q)) (i + 1)) := Lib.hid hft
              have HIK := Lib.hid hik
              clear hu ht hfu hft hub hsb hs1 hik HALL HN HRT HKN HWK HSB HSI HX HKO HV
              go_wp2_with fail
              go_roundg k
              case measure => omega
              case rel => exact ⟨i + 1, t, by first | rfl | rw [q1], by go_num, by have := HIK.out; omega, Lib.hid ⟨HH.out, HS2.out⟩⟩
            · have x5 : (X == 0) = false := by simpa using x2
              clear HOC x2
              go_upto_region 31 with fail
              clear hcj
              have HH := Lib.hid (HX.out.later (HB7.out))
              obtain ⟨bx, ox, u, rfl, hu, hcu, _⟩ := (HALL.out _ HH.out.below).2.2.2.1.next (i := K) (by rw [HN.out.1]; exact HKN.out)
              obtain ⟨bw, ow, t, rfl, ht, hct, _⟩ := (HALL.out _ HH.out.below).2.2.1.next (i := K) (by simpa using HKN.out)
              have hfu := fn_at hu
              have hft := (map_get ht).2
              rw [HWK.out] at hft
              have hub := HRT.out.want0 K
              rw [hfu] at hub
              have hsb := HSB.out
              have hs1 : t = S + u := by rw [hft, su_succ, ← HSI.out, HKO.out, hfu]
              have q1 : wrap64 (S + u) = t := by rw [hs1]; exact IntWalk.wrap64_in _ (by constructor <;> omega)
              have q2 : (t != t) = false := by simp
              have HS2 : Hid (t = su (fun q => fn xs (o q)) (i + 1)) := Lib.hid hft
              have HIK := Lib.hid hik
              clear hu ht hfu hft hub hsb hs1 hik HALL HN HRT HKN HWK HSB HSI HX HKO HV
              go_wp2_with fail
              go_roundg k
              case measure => omega
              case rel => exact ⟨i + 1, t, by first | rfl | rw [q1], by go_num, by have := HIK.out; omega, Lib.hid ⟨HH.out, HS2.out⟩⟩
theorem gpsEnds_walk {w : World} {P Q : Option Addr} {xs ys : List Int} {n m : Nat} (hx : IntsIn w P xs) (h1 : xs.length = n) (hy : IntsIn w Q ys) (h2 : ys.length = m) (cx cy : Nat) :
    Calls Try.prog 3 #[.slice P n cx, .slice Q m cy] w fun e w' => e = .returned (.bool true) ∧ Below w.heap.size w w' := by
  subst h1 h2
  rcases wrongL_way xs ys with ⟨h, _⟩ | ⟨h, _⟩ | ⟨h, hR⟩
  · exact gpsEnds_no hx hy cx cy h (.inl rfl)
  · exact gpsEnds_no hx hy cx cy h (.inr rfl)
  · exact gpsEnds_ok hx hy cx cy h hR
end Go.Proofs.Ytemoleopabddnaa
