/- trie.Within, Wrong and Find answer what the document says. -/
import Derived.Test.YtcadjgmglaimdaaTrF3
import Derived.Test.YtcadjgmglaimdaaTr9
import Derived.Test.YtcadjgmglaimdaaTrRow
namespace Go.Proofs.Ytcadjgmglaimdaa
open Go.RowKit Go.Maps

set_option maxRecDepth 100000 in
set_option maxHeartbeats 8000000 in
theorem finds_law {w : World} {A D : Option Addr} {ps : List Pf} {ds : List Ad} {p : Pf} {len lend cap cad : Nat} (hC : CameP w A cap ps) (hl : ps.length = len) (hD : CameD w D cad ds) (hld : ds.length = lend) (hp : p.ad.Ok) :
    Calls Try.prog 3 #[.slice A len cap, .slice D lend cad, .agg #[.int .u8 p.ad.a0, .int .u8 p.ad.a1, .int .u8 p.ad.a2, .int .u8 p.ad.a3, .int .i64 p.bits, .int .i64 p.led]] w fun e w' => e = .returned (.bool true) ∧ Below w.heap.size w w' := by
  subst hl hld
  have hsz := hC.size
  have hdl := hD.lies.len
  have hroom := hC.room
  have hroomd := hD.room
  have HC := Lib.hid hC
  have HD := Lib.hid hD
  have HOK := Lib.hid hp
  have HFF' : Hid (∀ W, Below w.heap.size w W → ∀ a : Ad, a.Ok → Calls Try.prog 14 #[.slice A ps.length cap, .agg #[.int .u8 a.a0, .int .u8 a.a1, .int .u8 a.a2, .int .u8 a.a3]] W fun e w' => e = .returned (.tuple #[.int .i64 (lookTo a.num ps), .bool (lookIs a.num ps)]) ∧ Below W.heap.size W w') := Lib.hid (fun W hW a ha => fFind_any (hC.lies.below hW) hC.room ha)
  have b1 : (w.alloc (.cells #[.int .u8 p.ad.a0, .int .u8 p.ad.a1, .int .u8 p.ad.a2, .int .u8 p.ad.a3, .int .i64 p.bits, .int .i64 p.led] 26)).heap[w.heap.size]? = some (.cells #[.int .u8 p.ad.a0, .int .u8 p.ad.a1, .int .u8 p.ad.a2, .int .u8 p.ad.a3, .int .i64 p.bits, .int .i64 p.led] 26 (0, 0)) := heap_alloc_new w _
  have b0 : Below w.heap.size w (w.alloc (.cells #[.int .u8 p.ad.a0, .int .u8 p.ad.a1, .int .u8 p.ad.a2, .int .u8 p.ad.a3, .int .i64 p.bits, .int .i64 p.led] 26)) := (Below.refl _ w).alloc (Nat.le_refl _) _
  have HS0 : Hid (∀ W, Below (w.alloc (.cells #[.int .u8 p.ad.a0, .int .u8 p.ad.a1, .int .u8 p.ad.a2, .int .u8 p.ad.a3, .int .i64 p.bits, .int .i64 p.led] 26)).heap.size (w.alloc (.cells #[.int .u8 p.ad.a0, .int .u8 p.ad.a1, .int .u8 p.ad.a2, .int .u8 p.ad.a3, .int .i64 p.bits, .int .i64 p.led] 26)) W → (W.cell? ⟨w.heap.size, 0, none⟩ = some (.int .u8 p.ad.a0) ∧ W.cell? ⟨w.heap.size, 1, none⟩ = some (.int .u8 p.ad.a1) ∧ W.cell? ⟨w.heap.size, 2, none⟩ = some (.int .u8 p.ad.a2) ∧ W.cell? ⟨w.heap.size, 3, none⟩ = some (.int .u8 p.ad.a3) ∧ W.cell? ⟨w.heap.size, 4, none⟩ = some (.int .i64 p.bits) ∧ W.cell? ⟨w.heap.size, 5, none⟩ = some (.int .i64 p.led)) ∧ Below w.heap.size w W) := Lib.hid (fun W hW => by
    have e := (hW.block _ (by simp)).trans b1
    exact ⟨⟨cell_of_row _ _ 0 _ _ _ e, cell_of_row _ _ 1 _ _ _ e, cell_of_row _ _ 2 _ _ _ e, cell_of_row _ _ 3 _ _ _ e, cell_of_row _ _ 4 _ _ _ e, cell_of_row _ _ 5 _ _ _ e⟩, b0.trans (hW.mono b0.size)⟩)
  have hF1 := find_any (hC.lies.below b0) hC.room (hD.lies.below b0) hD.room
  obtain ⟨n, hn⟩ : ∃ n, ds.length = n := ⟨_, rfl⟩
  obtain ⟨kk, hk⟩ : ∃ k, ps.length = k := ⟨_, rfl⟩
  have HK := Lib.hid (And.intro hn hk)
  rw [hn] at hdl hroomd hF1 ⊢
  rw [hk] at hsz hroom hF1 ⊢
  have H1 := Lib.hid hF1
  have HFF : Hid (∀ W, Below w.heap.size w W → ∀ a : Ad, a.Ok → Calls Try.prog 14 #[.slice A kk cap, .agg #[.int .u8 a.a0, .int .u8 a.a1, .int .u8 a.a2, .int .u8 a.a3]] W fun e w' => e = .returned (.tuple #[.int .i64 (lookTo a.num ps), .bool (lookIs a.num ps)]) ∧ Below W.heap.size W w') := Lib.hid (by have := HFF'.out; rw [hk] at this; exact this)
  clear hC hD hp b0 b1 hF1 hn hk HFF'
  go_enter Try.func3, Try.ntmps3
  go_wp2_with fail
  generalize w.alloc (.cells #[.int .u8 p.ad.a0, .int .u8 p.ad.a1, .int .u8 p.ad.a2, .int .u8 p.ad.a3, .int .i64 p.bits, .int .i64 p.led] 26) = m0 at *
  refine H1.out.mono ?_
  intro e w1 hF
  have H2 := fWrong_any (HC.out.lies.below (HS0.out w1 hF.1).2) HC.out.room
  rw [HK.out.2] at H2
  have H2' := Lib.hid H2
  have HB1 := Lib.hid hF.1
  have H3' : Hid (∀ W, Below m0.heap.size m0 W → Calls Try.prog 11 #[.slice A kk cap] W fun e w' => e = .returned (.int .i64 (wrong ps)) ∧ Below W.heap.size W w') := Lib.hid (fun W hW => by
    have := wrong_any (HC.out.lies.below (HS0.out W hW).2) HC.out.room
    rw [HK.out.2] at this
    exact this)
  have HF := Lib.hid hF.2
  clear hF H2 H1 HC
  rcases HF.out with ⟨h0, rfl⟩ | ⟨h0, g, h, rfl, _, _, t1⟩
  · have h0' : (wrong ps != 0) = true := by simpa using h0
    clear HF h0
    generalize wrong ps = E at *
    go_wp2_with fail
    refine H2'.out.mono ?_
    rintro e w2 ⟨rfl, hb2⟩
    have HB2 := Lib.hid (HB1.out.trans (hb2.mono HB1.out.size))
    clear hb2 H2' HB1
    go_wp2_with fail
    refine (H3'.out _ HB2.out).mono ?_
    rintro e m ⟨rfl, hb3⟩
    have HBM := Lib.hid (HB2.out.trans (hb3.mono HB2.out.size))
    have HSM : Hid (∀ W, Below m.heap.size m W → (W.cell? ⟨w.heap.size, 0, none⟩ = some (.int .u8 p.ad.a0) ∧ W.cell? ⟨w.heap.size, 1, none⟩ = some (.int .u8 p.ad.a1) ∧ W.cell? ⟨w.heap.size, 2, none⟩ = some (.int .u8 p.ad.a2) ∧ W.cell? ⟨w.heap.size, 3, none⟩ = some (.int .u8 p.ad.a3) ∧ W.cell? ⟨w.heap.size, 4, none⟩ = some (.int .i64 p.bits) ∧ W.cell? ⟨w.heap.size, 5, none⟩ = some (.int .i64 p.led)) ∧ Below w.heap.size w W) := Lib.hid (fun W hW => HS0.out W (HBM.out.trans (hW.mono HBM.out.size)))
    clear hb3 HB2 H3' HS0 HBM
    go_wp2_with fail
    go_loopg [37] n (fun k c W => ∃ i : Nat, c = .int .i64 (i : Int) ∧ i + k = n ∧ Hid (Below m.heap.size m W))
    case atStart => exact ⟨0, rfl, by omega, Lib.hid (Below.refl _ _)⟩
    case round =>
      obtain ⟨i, rfl, hik, HX⟩ := hrel
      cases gk with
      | succ k =>
        have hi : i < n := by omega
        have i1 : (i : Int) < (n : Int) := by omega
        obtain ⟨pcs, hbw⟩ := HSM.out wr HX.out
        obtain ⟨b, off, a, rfl, hax, hat, hok, _⟩ := (HD.out.lies.below hbw).next (i := i) (by have := HK.out.1; omega)
        obtain ⟨q0, q1, q2, q3⟩ := hat
        have HW1 : Hid (∀ w, Calls Try.prog 12 #[.agg #[.int .u8 a.a0, .int .u8 a.a1, .int .u8 a.a2, .int .u8 a.a3], .agg #[.int .u8 p.ad.a0, .int .u8 p.ad.a1, .int .u8 p.ad.a2, .int .u8 p.ad.a3, .int .i64 p.bits, .int .i64 p.led]] w fun e w' => e = .returned (.bool (inB a.num p)) ∧ Below w.heap.size w w') := Lib.hid (fun w => within_any a p hok HOK.out w)
        have HW2 : Hid (∀ w, Calls Try.prog 13 #[.agg #[.int .u8 a.a0, .int .u8 a.a1, .int .u8 a.a2, .int .u8 a.a3], .agg #[.int .u8 p.ad.a0, .int .u8 p.ad.a1, .int .u8 p.ad.a2, .int .u8 p.ad.a3, .int .i64 p.bits, .int .i64 p.led]] w fun e w' => e = .returned (.bool (inB a.num p)) ∧ Below w.heap.size w w') := Lib.hid (fun w => fWithin_any a p hok HOK.out w)
        have hw3 : Below wr.heap.size wr (wr.alloc (.cells #[.int .u8 a.a0, .int .u8 a.a1, .int .u8 a.a2, .int .u8 a.a3] 24)) := (Below.refl _ _).alloc (Nat.le_refl _) _
        have ha3 : (wr.alloc (.cells #[.int .u8 a.a0, .int .u8 a.a1, .int .u8 a.a2, .int .u8 a.a3] 24)).heap[wr.heap.size]? = some (.cells #[.int .u8 a.a0, .int .u8 a.a1, .int .u8 a.a2, .int .u8 a.a3] 24 (0, 0)) := heap_alloc_new wr _
        have HR := Lib.hid (And.intro hw3 ha3)
        clear hw3 ha3 hax hok pcs hbw
        generalize inB a.num p = IB at *
        go_upto_region 8 with fail
        clear q0 q1 q2 q3
        generalize wr.alloc (.cells #[.int .u8 a.a0, .int .u8 a.a1, .int .u8 a.a2, .int .u8 a.a3] 24) = w3 at *
        have HS : Hid (∀ W, Below w3.heap.size w3 W → (fun W => (W.cell? ⟨wr.heap.size, 0, none⟩ = some (.int .u8 a.a0) ∧ W.cell? ⟨wr.heap.size, 1, none⟩ = some (.int .u8 a.a1) ∧ W.cell? ⟨wr.heap.size, 2, none⟩ = some (.int .u8 a.a2) ∧ W.cell? ⟨wr.heap.size, 3, none⟩ = some (.int .u8 a.a3)) ∧ W.cell? ⟨w.heap.size, 0, none⟩ = some (.int .u8 p.ad.a0) ∧ W.cell? ⟨w.heap.size, 1, none⟩ = some (.int .u8 p.ad.a1) ∧ W.cell? ⟨w.heap.size, 2, none⟩ = some (.int .u8 p.ad.a2) ∧ W.cell? ⟨w.heap.size, 3, none⟩ = some (.int .u8 p.ad.a3) ∧ W.cell? ⟨w.heap.size, 4, none⟩ = some (.int .i64 p.bits) ∧ W.cell? ⟨w.heap.size, 5, none⟩ = some (.int .i64 p.led)) W) := Lib.hid (fun W hW => by
          have e := (hW.block _ (Array.getElem?_eq_some_iff.1 HR.out.2).1).trans HR.out.2
          have h3 := HR.out.1.trans (hW.mono HR.out.1.size)
          exact ⟨⟨cell_of_row _ _ 0 _ _ _ e, cell_of_row _ _ 1 _ _ _ e, cell_of_row _ _ 2 _ _ _ e, cell_of_row _ _ 3 _ _ _ e⟩, (HSM.out W (HX.out.trans (h3.mono HX.out.size))).1⟩)
        have HY : Hid (∀ W, Below w3.heap.size w3 W → Below m.heap.size m W) := Lib.hid (fun W hW => HX.out.trans ((HR.out.1.trans (hW.mono HR.out.1.size)).mono HX.out.size))
        clear HX HR
        refine wp_region_held_drew (S := (fun W => (W.cell? ⟨wr.heap.size, 0, none⟩ = some (.int .u8 a.a0) ∧ W.cell? ⟨wr.heap.size, 1, none⟩ = some (.int .u8 a.a1) ∧ W.cell? ⟨wr.heap.size, 2, none⟩ = some (.int .u8 a.a2) ∧ W.cell? ⟨wr.heap.size, 3, none⟩ = some (.int .u8 a.a3)) ∧ W.cell? ⟨w.heap.size, 0, none⟩ = some (.int .u8 p.ad.a0) ∧ W.cell? ⟨w.heap.size, 1, none⟩ = some (.int .u8 p.ad.a1) ∧ W.cell? ⟨w.heap.size, 2, none⟩ = some (.int .u8 p.ad.a2) ∧ W.cell? ⟨w.heap.size, 3, none⟩ = some (.int .u8 p.ad.a3) ∧ W.cell? ⟨w.heap.size, 4, none⟩ = some (.int .i64 p.bits) ∧ W.cell? ⟨w.heap.size, 5, none⟩ = some (.int .i64 p.led))) (by kernel_rfl) (HS.out _ (Below.refl _ _).drew) (fun hHeld => ?_)
        obtain ⟨w0, hw0⟩ : ∃ W0, W0 = w3.drew := ⟨_, rfl⟩
        have HB0 : Hid (Below w3.heap.size w3 w0) := Lib.hid (by rw [hw0]; exact (Below.refl _ _).drew)
        rw [← hw0] at hHeld ⊢
        clear hw0
        refine wpAnyH_take (i := 0) (v := ?_) (by simp only [List.getElem?_toArray, List.getElem?_cons_zero] <;> rfl) (by kernel_rfl) (by kernel_rfl) (by kernel_rfl) (by exact fun _ _ _ h => h) (Or.inl ⟨by rfl, ?_⟩) hHeld ?_
        rotate_left
        · intro w hSw; (try dsimp only at hSw); go_simp; (try with_reducible rfl)
        (try simp only [Act.put, List.setIfInBounds_toArray, List.set_cons_zero, List.set_cons_succ])
        refine wpAnyH_take (i := 1) (v := ?_) (by simp only [List.getElem?_toArray, List.getElem?_cons_succ, List.getElem?_cons_zero] <;> rfl) (by kernel_rfl) (by kernel_rfl) (by kernel_rfl) (by exact fun _ _ _ h => h) (Or.inl ⟨by rfl, ?_⟩) hHeld ?_
        rotate_left
        · intro w hSw; (try dsimp only at hSw); go_simp; (try with_reducible rfl)
        (try simp only [Act.put, List.setIfInBounds_toArray, List.set_cons_zero, List.set_cons_succ])
        refine wpAnyH_take (i := 3) (v := ?_) (by simp only [List.getElem?_toArray, List.getElem?_cons_succ, List.getElem?_cons_zero] <;> rfl) (by kernel_rfl) (by kernel_rfl) (by kernel_rfl) (by exact fun _ _ _ h => h) (Or.inl ⟨by rfl, ?_⟩) hHeld ?_
        rotate_left
        · intro w hSw; (try dsimp only at hSw); go_simp; (try with_reducible rfl)
        (try simp only [Act.put, List.setIfInBounds_toArray, List.set_cons_zero, List.set_cons_succ])
        refine wpAnyH_take (i := 4) (v := ?_) (by simp only [List.getElem?_toArray, List.getElem?_cons_succ, List.getElem?_cons_zero] <;> rfl) (by kernel_rfl) (by kernel_rfl) (by kernel_rfl) (by exact fun _ _ _ h => h) (Or.inl ⟨by rfl, ?_⟩) hHeld ?_
        rotate_left
        · intro w hSw; (try dsimp only at hSw); go_simp; (try with_reducible rfl)
        (try simp only [Act.put, List.setIfInBounds_toArray, List.set_cons_zero, List.set_cons_succ])
        refine wpAnyH_ready (rs := [2]) (by kernel_rfl) (by simp) ?_
        refine AllReadyH.cons (by simp only [List.getElem?_toArray, List.getElem?_cons_succ, List.getElem?_cons_zero] <;> rfl) (fun K hK => ?_) AllReadyH.nil
        go_simp
        go_at_call 12
        refine (HW1.out _).mono ?_
        rintro e w1 ⟨rfl, hb1⟩
        have HB1 := Lib.hid (HB0.out.trans (hb1.mono HB0.out.size))
        clear hb1
        go_wp2_with fail
        refine hK.out _ _ ?_ (fun hHeld => ?_)
        · exact HS.out _ HB1.out
        clear hK K
        (try simp only [Act.put, List.setIfInBounds_toArray, List.set_cons_zero, List.set_cons_succ])
        refine wpAnyH_ready (rs := [5]) (by kernel_rfl) (by simp) ?_
        refine AllReadyH.cons (by simp only [List.getElem?_toArray, List.getElem?_cons_succ, List.getElem?_cons_zero] <;> rfl) (fun K hK => ?_) AllReadyH.nil
        go_simp
        go_at_call 13
        refine (HW2.out _).mono ?_
        rintro e w2 ⟨rfl, hb2⟩
        have HB2 := Lib.hid (HB1.out.trans (hb2.mono HB1.out.size))
        clear hb2
        go_wp2_with fail
        refine hK.out _ _ ?_ (fun hHeld => ?_)
        · exact HS.out _ HB2.out
        clear hK K
        (try simp only [Act.put, List.setIfInBounds_toArray, List.set_cons_zero, List.set_cons_succ])
        refine wpAnyH_take (i := 6) (v := ?_) (by simp only [List.getElem?_toArray, List.getElem?_cons_succ, List.getElem?_cons_zero] <;> rfl) (by kernel_rfl) (by kernel_rfl) (by kernel_rfl) (by exact fun _ _ _ h => h) (Or.inl ⟨by rfl, ?_⟩) hHeld ?_
        rotate_left
        · intro w hSw; (try dsimp only at hSw); go_simp; (try with_reducible rfl)
        (try simp only [Act.put, List.setIfInBounds_toArray, List.set_cons_zero, List.set_cons_succ])
        refine wpAnyH_done (by kernel_rfl) ?_ _
        have HY2 := Lib.hid (HY.out _ HB2.out)
        clear HY HS HB0 HB1 HB2 HW1 HW2 hHeld
        go_wp2_with fail
        go_roundg k
        case measure => omega
        case rel => exact ⟨i + 1, by go_num, by omega, HY2⟩
      | zero =>
        obtain rfl : i = n := by omega
        have HB := Lib.hid (HSM.out wr HX.out).2
        clear HX HSM HD HOK HFF HK
        go_wp2_with fail
        go_ret
        exact ⟨rfl, HB.out⟩
  · have HT1 := Lib.hid t1
    rw [HK.out.1]
    rw [h0] at H2' H3'
    clear HF h0 t1
    go_wp2_with fail
    refine H2'.out.mono ?_
    rintro e w2 ⟨rfl, hb2⟩
    have HT2 := Lib.hid (HT1.out.below hb2)
    have HB2 := Lib.hid (HB1.out.trans (hb2.mono HB1.out.size))
    clear hb2 H2' HB1 HT1
    go_wp2_with fail
    refine (H3'.out _ HB2.out).mono ?_
    rintro e m ⟨rfl, hb3⟩
    have HBM := Lib.hid (HB2.out.trans (hb3.mono HB2.out.size))
    have HSM : Hid (∀ W, Below m.heap.size m W → (W.cell? ⟨w.heap.size, 0, none⟩ = some (.int .u8 p.ad.a0) ∧ W.cell? ⟨w.heap.size, 1, none⟩ = some (.int .u8 p.ad.a1) ∧ W.cell? ⟨w.heap.size, 2, none⟩ = some (.int .u8 p.ad.a2) ∧ W.cell? ⟨w.heap.size, 3, none⟩ = some (.int .u8 p.ad.a3) ∧ W.cell? ⟨w.heap.size, 4, none⟩ = some (.int .i64 p.bits) ∧ W.cell? ⟨w.heap.size, 5, none⟩ = some (.int .i64 p.led)) ∧ Below w.heap.size w W) := Lib.hid (fun W hW => HS0.out W (HBM.out.trans (hW.mono HBM.out.size)))
    have HTD : Hid (∀ W, Below m.heap.size m W → Told W g h ps ds ds.length) := Lib.hid (fun W hW => (HT2.out.below hb3).below hW)
    clear hb3 HB2 H3' HS0 HBM HT2
    go_wp2_with fail
    go_loopg [37] n (fun k c W => ∃ i : Nat, c = .int .i64 (i : Int) ∧ i + k = n ∧ Hid (Below m.heap.size m W))
    case atStart => exact ⟨0, rfl, by omega, Lib.hid (Below.refl _ _)⟩
    case round =>
      obtain ⟨i, rfl, hik, HX⟩ := hrel
      cases gk with
      | succ k =>
        have hi : i < n := by omega
        have i1 : (i : Int) < (n : Int) := by omega
        obtain ⟨pcs, hbw⟩ := HSM.out wr HX.out
        obtain ⟨b, off, a, rfl, hax, hat, hok, _⟩ := (HD.out.lies.below hbw).next (i := i) (by have := HK.out.1; omega)
        obtain ⟨q0, q1, q2, q3⟩ := hat
        have HW1 : Hid (∀ w, Calls Try.prog 12 #[.agg #[.int .u8 a.a0, .int .u8 a.a1, .int .u8 a.a2, .int .u8 a.a3], .agg #[.int .u8 p.ad.a0, .int .u8 p.ad.a1, .int .u8 p.ad.a2, .int .u8 p.ad.a3, .int .i64 p.bits, .int .i64 p.led]] w fun e w' => e = .returned (.bool (inB a.num p)) ∧ Below w.heap.size w w') := Lib.hid (fun w => within_any a p hok HOK.out w)
        have HW2 : Hid (∀ w, Calls Try.prog 13 #[.agg #[.int .u8 a.a0, .int .u8 a.a1, .int .u8 a.a2, .int .u8 a.a3], .agg #[.int .u8 p.ad.a0, .int .u8 p.ad.a1, .int .u8 p.ad.a2, .int .u8 p.ad.a3, .int .i64 p.bits, .int .i64 p.led]] w fun e w' => e = .returned (.bool (inB a.num p)) ∧ Below w.heap.size w w') := Lib.hid (fun w => fWithin_any a p hok HOK.out w)
        have hw3 : Below wr.heap.size wr (wr.alloc (.cells #[.int .u8 a.a0, .int .u8 a.a1, .int .u8 a.a2, .int .u8 a.a3] 24)) := (Below.refl _ _).alloc (Nat.le_refl _) _
        have ha3 : (wr.alloc (.cells #[.int .u8 a.a0, .int .u8 a.a1, .int .u8 a.a2, .int .u8 a.a3] 24)).heap[wr.heap.size]? = some (.cells #[.int .u8 a.a0, .int .u8 a.a1, .int .u8 a.a2, .int .u8 a.a3] 24 (0, 0)) := heap_alloc_new wr _
        have HR := Lib.hid (And.intro hw3 ha3)
        clear hw3 ha3 hax hok pcs hbw
        generalize inB a.num p = IB at *
        go_upto_region 8 with fail
        clear q0 q1 q2 q3
        generalize wr.alloc (.cells #[.int .u8 a.a0, .int .u8 a.a1, .int .u8 a.a2, .int .u8 a.a3] 24) = w3 at *
        have HS : Hid (∀ W, Below w3.heap.size w3 W → (fun W => (W.cell? ⟨wr.heap.size, 0, none⟩ = some (.int .u8 a.a0) ∧ W.cell? ⟨wr.heap.size, 1, none⟩ = some (.int .u8 a.a1) ∧ W.cell? ⟨wr.heap.size, 2, none⟩ = some (.int .u8 a.a2) ∧ W.cell? ⟨wr.heap.size, 3, none⟩ = some (.int .u8 a.a3)) ∧ W.cell? ⟨w.heap.size, 0, none⟩ = some (.int .u8 p.ad.a0) ∧ W.cell? ⟨w.heap.size, 1, none⟩ = some (.int .u8 p.ad.a1) ∧ W.cell? ⟨w.heap.size, 2, none⟩ = some (.int .u8 p.ad.a2) ∧ W.cell? ⟨w.heap.size, 3, none⟩ = some (.int .u8 p.ad.a3) ∧ W.cell? ⟨w.heap.size, 4, none⟩ = some (.int .i64 p.bits) ∧ W.cell? ⟨w.heap.size, 5, none⟩ = some (.int .i64 p.led)) W) := Lib.hid (fun W hW => by
          have e := (hW.block _ (Array.getElem?_eq_some_iff.1 HR.out.2).1).trans HR.out.2
          have h3 := HR.out.1.trans (hW.mono HR.out.1.size)
          exact ⟨⟨cell_of_row _ _ 0 _ _ _ e, cell_of_row _ _ 1 _ _ _ e, cell_of_row _ _ 2 _ _ _ e, cell_of_row _ _ 3 _ _ _ e⟩, (HSM.out W (HX.out.trans (h3.mono HX.out.size))).1⟩)
        have HY : Hid (∀ W, Below w3.heap.size w3 W → Below m.heap.size m W) := Lib.hid (fun W hW => HX.out.trans ((HR.out.1.trans (hW.mono HR.out.1.size)).mono HX.out.size))
        clear HX HR
        refine wp_region_held_drew (S := (fun W => (W.cell? ⟨wr.heap.size, 0, none⟩ = some (.int .u8 a.a0) ∧ W.cell? ⟨wr.heap.size, 1, none⟩ = some (.int .u8 a.a1) ∧ W.cell? ⟨wr.heap.size, 2, none⟩ = some (.int .u8 a.a2) ∧ W.cell? ⟨wr.heap.size, 3, none⟩ = some (.int .u8 a.a3)) ∧ W.cell? ⟨w.heap.size, 0, none⟩ = some (.int .u8 p.ad.a0) ∧ W.cell? ⟨w.heap.size, 1, none⟩ = some (.int .u8 p.ad.a1) ∧ W.cell? ⟨w.heap.size, 2, none⟩ = some (.int .u8 p.ad.a2) ∧ W.cell? ⟨w.heap.size, 3, none⟩ = some (.int .u8 p.ad.a3) ∧ W.cell? ⟨w.heap.size, 4, none⟩ = some (.int .i64 p.bits) ∧ W.cell? ⟨w.heap.size, 5, none⟩ = some (.int .i64 p.led))) (by kernel_rfl) (HS.out _ (Below.refl _ _).drew) (fun hHeld => ?_)
        obtain ⟨w0, hw0⟩ : ∃ W0, W0 = w3.drew := ⟨_, rfl⟩
        have HB0 : Hid (Below w3.heap.size w3 w0) := Lib.hid (by rw [hw0]; exact (Below.refl _ _).drew)
        rw [← hw0] at hHeld ⊢
        clear hw0
        refine wpAnyH_take (i := 0) (v := ?_) (by simp only [List.getElem?_toArray, List.getElem?_cons_zero] <;> rfl) (by kernel_rfl) (by kernel_rfl) (by kernel_rfl) (by exact fun _ _ _ h => h) (Or.inl ⟨by rfl, ?_⟩) hHeld ?_
        rotate_left
        · intro w hSw; (try dsimp only at hSw); go_simp; (try with_reducible rfl)
        (try simp only [Act.put, List.setIfInBounds_toArray, List.set_cons_zero, List.set_cons_succ])
        refine wpAnyH_take (i := 1) (v := ?_) (by simp only [List.getElem?_toArray, List.getElem?_cons_succ, List.getElem?_cons_zero] <;> rfl) (by kernel_rfl) (by kernel_rfl) (by kernel_rfl) (by exact fun _ _ _ h => h) (Or.inl ⟨by rfl, ?_⟩) hHeld ?_
        rotate_left
        · intro w hSw; (try dsimp only at hSw); go_simp; (try with_reducible rfl)
        (try simp only [Act.put, List.setIfInBounds_toArray, List.set_cons_zero, List.set_cons_succ])
        refine wpAnyH_take (i := 3) (v := ?_) (by simp only [List.getElem?_toArray, List.getElem?_cons_succ, List.getElem?_cons_zero] <;> rfl) (by kernel_rfl) (by kernel_rfl) (by kernel_rfl) (by exact fun _ _ _ h => h) (Or.inl ⟨by rfl, ?_⟩) hHeld ?_
        rotate_left
        · intro w hSw; (try dsimp only at hSw); go_simp; (try with_reducible rfl)
        (try simp only [Act.put, List.setIfInBounds_toArray, List.set_cons_zero, List.set_cons_succ])
        refine wpAnyH_take (i := 4) (v := ?_) (by simp only [List.getElem?_toArray, List.getElem?_cons_succ, List.getElem?_cons_zero] <;> rfl) (by kernel_rfl) (by kernel_rfl) (by kernel_rfl) (by exact fun _ _ _ h => h) (Or.inl ⟨by rfl, ?_⟩) hHeld ?_
        rotate_left
        · intro w hSw; (try dsimp only at hSw); go_simp; (try with_reducible rfl)
        (try simp only [Act.put, List.setIfInBounds_toArray, List.set_cons_zero, List.set_cons_succ])
        refine wpAnyH_ready (rs := [2]) (by kernel_rfl) (by simp) ?_
        refine AllReadyH.cons (by simp only [List.getElem?_toArray, List.getElem?_cons_succ, List.getElem?_cons_zero] <;> rfl) (fun K hK => ?_) AllReadyH.nil
        go_simp
        go_at_call 12
        refine (HW1.out _).mono ?_
        rintro e w1 ⟨rfl, hb1⟩
        have HB1 := Lib.hid (HB0.out.trans (hb1.mono HB0.out.size))
        clear hb1
        go_wp2_with fail
        refine hK.out _ _ ?_ (fun hHeld => ?_)
        · exact HS.out _ HB1.out
        clear hK K
        (try simp only [Act.put, List.setIfInBounds_toArray, List.set_cons_zero, List.set_cons_succ])
        refine wpAnyH_ready (rs := [5]) (by kernel_rfl) (by simp) ?_
        refine AllReadyH.cons (by simp only [List.getElem?_toArray, List.getElem?_cons_succ, List.getElem?_cons_zero] <;> rfl) (fun K hK => ?_) AllReadyH.nil
        go_simp
        go_at_call 13
        refine (HW2.out _).mono ?_
        rintro e w2 ⟨rfl, hb2⟩
        have HB2 := Lib.hid (HB1.out.trans (hb2.mono HB1.out.size))
        clear hb2
        go_wp2_with fail
        refine hK.out _ _ ?_ (fun hHeld => ?_)
        · exact HS.out _ HB2.out
        clear hK K
        (try simp only [Act.put, List.setIfInBounds_toArray, List.set_cons_zero, List.set_cons_succ])
        refine wpAnyH_take (i := 6) (v := ?_) (by simp only [List.getElem?_toArray, List.getElem?_cons_succ, List.getElem?_cons_zero] <;> rfl) (by kernel_rfl) (by kernel_rfl) (by kernel_rfl) (by exact fun _ _ _ h => h) (Or.inl ⟨by rfl, ?_⟩) hHeld ?_
        rotate_left
        · intro w hSw; (try dsimp only at hSw); go_simp; (try with_reducible rfl)
        (try simp only [Act.put, List.setIfInBounds_toArray, List.set_cons_zero, List.set_cons_succ])
        refine wpAnyH_done (by kernel_rfl) ?_ _
        have HY2 := Lib.hid (HY.out _ HB2.out)
        clear HY HS HB0 HB1 HB2 HW1 HW2 hHeld
        go_wp2_with fail
        go_roundg k
        case measure => omega
        case rel => exact ⟨i + 1, by go_num, by omega, HY2⟩
      | zero =>
        obtain rfl : i = n := by omega
        have HT2 := Lib.hid (HTD.out wr HX.out)
        have HBF := Lib.hid (HSM.out wr HX.out).2
        clear HX HSM HTD HOK
        go_wp2_with fail
        go_loopg [71] i (fun k c W => ∃ j : Nat, c = .int .i64 (j : Int) ∧ j + k = i ∧ Hid (Told W g h ps ds ds.length ∧ Below w.heap.size w W))
        case atStart => exact ⟨0, rfl, by omega, Lib.hid ⟨HT2.out, HBF.out⟩⟩
        case round =>
          clear HT2 HBF
          obtain ⟨j, rfl, hjk, HJ⟩ := hrel
          cases gk with
          | zero =>
            obtain rfl : j = i := by omega
            have HB := Lib.hid HJ.out.2
            clear HJ HD HFF HK
            go_wp2_with fail
            go_ret
            exact ⟨rfl, HB.out⟩
          | succ k =>
            have hj : j < i := by omega
            have j1 : (j : Int) < (i : Int) := by omega
            obtain ⟨b, off, a, rfl, hax, hat, hok, _⟩ := (HD.out.lies.below HJ.out.2).next (i := j) (by have := HK.out.1; omega)
            obtain ⟨q0, q1, q2, q3⟩ := hat
            have HC : Hid (∀ W, Below wr.heap.size wr W → (W.cell? ⟨g, j, none⟩ = some (.int .i64 (lookTo a.num ps)) ∧ W.cell? ⟨h, j, none⟩ = some (.bool (lookIs a.num ps))) ∧ Told W g h ps ds ds.length ∧ Below w.heap.size w W) := Lib.hid (fun W hW => by
              have ht := HJ.out.1.below hW
              exact ⟨ht.at hax, ht, HJ.out.2.trans (hW.mono HJ.out.2.size)⟩)
            have hw3 : Below wr.heap.size wr (wr.alloc (.cells #[.int .u8 a.a0, .int .u8 a.a1, .int .u8 a.a2, .int .u8 a.a3] 24)) := (Below.refl _ _).alloc (Nat.le_refl _) _
            have HFc := Lib.hid (HFF.out _ (HJ.out.2.trans (hw3.mono HJ.out.2.size)) a hok)
            have HR := Lib.hid hw3
            clear hw3 hax hok HJ
            generalize lookTo a.num ps = X at *
            generalize lookIs a.num ps = Y at *
            go_wp2_with fail
            refine HFc.out.mono ?_
            rintro e w5 ⟨rfl, hb5⟩
            obtain ⟨⟨c1, c2⟩, hn⟩ := HC.out w5 (HR.out.trans (hb5.mono HR.out.size))
            have HN := Lib.hid hn
            clear hb5 HC HR HFc q0 q1 q2 q3 hn
            cases Y
            all_goals
              go_wp2_with fail
              go_roundg k
              case measure => omega
              case rel => exact ⟨j + 1, by go_num, by omega, HN⟩
end Go.Proofs.Ytcadjgmglaimdaa
