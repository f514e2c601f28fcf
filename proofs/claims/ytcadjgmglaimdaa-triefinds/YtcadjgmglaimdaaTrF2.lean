/- The reference for package trie: FWrong. -/
import Derived.Test.YtcadjgmglaimdaaTrF1
namespace Go.Proofs.Ytcadjgmglaimdaa
open Go.RowKit Go.Maps

structure FwI (w : World) (ps : List Pf) (i : Nat) (W : World) : Prop where
  below : Below w.heap.size w W
  err : wr (ps.take i) (ps.drop i) = wrong ps

set_option maxRecDepth 100000 in
set_option maxHeartbeats 8000000 in
theorem fWrong_any {w : World} {A : Option Addr} {ps : List Pf} (h : PfsIn w A ps) {cap : Nat} (hcap : ps.length ≤ cap) :
    Calls Try.prog 10 #[.slice A ps.length cap] w fun e w' => e = .returned (.int .i64 (wrong ps)) ∧ Below w.heap.size w w' := by
  obtain ⟨n, hl⟩ : ∃ n, ps.length = n := ⟨_, rfl⟩
  have hlen := h.len
  rw [hl] at hlen hcap ⊢
  by_cases c : 400 < n
  · have c1 : (400 : Int) < (n : Int) := by omega
    have HE : Hid (wrong ps = 2) := Lib.hid (by unfold wrong; rw [if_pos (by omega)])
    clear h
    go_enter Try.func10, Try.ntmps10
    go_wp2_with fail
    go_ret
    exact ⟨by rw [HE.out]; rfl, Below.refl _ _⟩
  · have c1 : ¬ (400 : Int) < (n : Int) := by omega
    have HS : Hid (FwI w ps 0 w) := Lib.hid ⟨Below.refl _ _, by unfold wrong; rw [if_neg (by omega)]; rfl⟩
    have HP := Lib.hid (And.intro h hl)
    clear h hl
    go_enter Try.func10, Try.ntmps10
    go_wp2_with fail
    go_loopg [11] n (fun k v11 W => ∃ i : Nat, v11 = .int .i64 (i : Int) ∧ i + k = n ∧ Hid (FwI w ps i W))
    case atStart => exact ⟨0, rfl, by omega, HS⟩
    case round =>
      clear HS
      obtain ⟨i, rfl, hik, HI⟩ := hrel
      cases gk with
      | zero =>
        obtain rfl : i = n := by omega
        have HZ : Hid (wrong ps = 0 ∧ Below w.heap.size w wr) := Lib.hid (by
          have he := HI.out.err
          have hle := HP.out.2
          rw [List.drop_eq_nil_of_le (by omega)] at he
          exact ⟨he.symm, HI.out.below⟩)
        clear HI HP
        go_wp2_with fail
        go_ret
        exact ⟨by rw [HZ.out.1]; rfl, HZ.out.2⟩
      | succ k =>
        have hi : i < n := by omega
        have i1 : (i : Int) < (n : Int) := by omega
        obtain ⟨bl, off, p, rfl, hp, hat, hok, hbl⟩ := (HP.out.1.below HI.out.below).next (i := i) (by have := HP.out.2; omega)
        obtain ⟨q0, q1, q2, q3, q4, q5⟩ := hat
        have HE1 : Hid (¬ p.val → wrong ps = 2) := Lib.hid (fun h => by rw [← HI.out.err, drop_cons hp, wr_bad h])
        have HE2 : Hid (p.val → ¬ low p → wrong ps = 1) := Lib.hid (fun h h2 => by rw [← HI.out.err, drop_cons hp, wr_form h h2])
        have HE3 : Hid (p.val → low p → (∃ r ∈ ps.take i, same r p) → wrong ps = 6) := Lib.hid (fun h h2 h3 => by rw [← HI.out.err, drop_cons hp, wr_held h h2 h3])
        have HE4 : Hid (p.val → low p → (¬ ∃ r ∈ ps.take i, same r p) → ∀ W, Below w.heap.size w W → FwI w ps (i + 1) W) := Lib.hid (fun h h2 h3 W k1 => ⟨k1, by rw [take_snoc hp, ← wr_next h h2 h3, ← drop_cons hp]; exact HI.out.err⟩)
        have HPJ : Hid (∀ W, Below wr.heap.size wr W → ∀ j, j < i → ∃ r, ps[j]? = some r ∧ PfAt W bl (off + j * 6) r ∧ r.ad.Ok) := Lib.hid (fun W hW j hj => by
          obtain ⟨b', off', r, e, hr, hra, hro, _⟩ := ((HP.out.1.below HI.out.below).below hW).next (i := j) (by have := HP.out.2; omega)
          injection e with e
          injection e with e1 e2
          subst e1 e2
          exact ⟨r, hr, hra, hro⟩)
        have HLT : Hid (i < ps.length) := Lib.hid (by have := HP.out.2; omega)
        have HBW : Hid (Below w.heap.size w wr) := Lib.hid HI.out.below
        have HF2 : Hid (∀ w, Calls Try.prog 24 #[.agg #[.int .u8 p.ad.a0, .int .u8 p.ad.a1, .int .u8 p.ad.a2, .int .u8 p.ad.a3], .int .i64 32] w fun e w' => e = .returned (.int .i64 (fb p.n 32)) ∧ Below w.heap.size w w') := Lib.hid (fun w => fBits_any p.ad hok 32 (by decide) w)
        have HF1' : Hid (p.val → ∀ w, Calls Try.prog 24 #[.agg #[.int .u8 p.ad.a0, .int .u8 p.ad.a1, .int .u8 p.ad.a2, .int .u8 p.ad.a3], .int .i64 (p.b : Int)] w fun e w' => e = .returned (.int .i64 (fb p.n p.b)) ∧ Below w.heap.size w w') := Lib.hid (fun hv w => fBits_any p.ad hok p.b (by have := hv.1; have := hv.2; unfold Pf.b; omega) w)
        have hw3 : Below wr.heap.size wr (wr.alloc (.cells #[.int .u8 p.ad.a0, .int .u8 p.ad.a1, .int .u8 p.ad.a2, .int .u8 p.ad.a3, .int .i64 p.bits, .int .i64 p.led] 26)) := (Below.refl _ _).alloc (Nat.le_refl _) _
        have hP3 : (wr.alloc (.cells #[.int .u8 p.ad.a0, .int .u8 p.ad.a1, .int .u8 p.ad.a2, .int .u8 p.ad.a3, .int .i64 p.bits, .int .i64 p.led] 26)).heap[wr.heap.size]? = some (.cells #[.int .u8 p.ad.a0, .int .u8 p.ad.a1, .int .u8 p.ad.a2, .int .u8 p.ad.a3, .int .i64 p.bits, .int .i64 p.led] 26 (0, 0)) := heap_alloc_new wr _
        have HW := Lib.hid (And.intro hw3 hP3)
        have hv : p.val ↔ 0 ≤ p.bits ∧ p.bits ≤ 32 := Iff.rfl
        have HV := Lib.hid hv
        clear hw3 hP3 HI HP hp hok hbl hv
        go_upto_region 6 with fail
        generalize wr.alloc (.cells #[.int .u8 p.ad.a0, .int .u8 p.ad.a1, .int .u8 p.ad.a2, .int .u8 p.ad.a3, .int .i64 p.bits, .int .i64 p.led] 26) = w3 at *
        have HS0 : Hid (∀ W, Below w3.heap.size w3 W → W.cell? ⟨wr.heap.size, 0, none⟩ = some (.int .u8 p.ad.a0) ∧ W.cell? ⟨wr.heap.size, 1, none⟩ = some (.int .u8 p.ad.a1) ∧ W.cell? ⟨wr.heap.size, 2, none⟩ = some (.int .u8 p.ad.a2) ∧ W.cell? ⟨wr.heap.size, 3, none⟩ = some (.int .u8 p.ad.a3) ∧ W.cell? ⟨wr.heap.size, 4, none⟩ = some (.int .i64 p.bits) ∧ W.cell? ⟨wr.heap.size, 5, none⟩ = some (.int .i64 p.led)) := Lib.hid (fun W hW => by
          have e := (hW.block wr.heap.size (Array.getElem?_eq_some_iff.1 HW.out.2).1).trans HW.out.2
          exact ⟨cell_of_row _ _ 0 _ _ _ e, cell_of_row _ _ 1 _ _ _ e, cell_of_row _ _ 2 _ _ _ e, cell_of_row _ _ 3 _ _ _ e, cell_of_row _ _ 4 _ _ _ e, cell_of_row _ _ 5 _ _ _ e⟩)
        have HB3 : Hid (∀ W, Below w3.heap.size w3 W → Below wr.heap.size wr W ∧ Below w.heap.size w W) := Lib.hid (fun W hW => by
          have h1 := HW.out.1.trans (hW.mono HW.out.1.size)
          exact ⟨h1, HBW.out.trans (h1.mono HBW.out.size)⟩)
        obtain ⟨r0, r1, r2, r3, r4, r5⟩ := HS0.out w3 (Below.refl _ _)
        clear q0 q1 q2 q3 q4 q5
        by_cases c0 : p.bits < 0
        · have HZ : Hid (wrong ps = 2 ∧ Below w.heap.size w w3) := Lib.hid ⟨HE1.out (fun h => by have := (HV.out.1 h).1; omega), (HB3.out _ (Below.refl _ _)).2⟩
          clear HE1 HE2 HE3 HE4 HPJ HF1' HF2 HW HS0 HB3 HBW HV HLT
          go_wp2_with fail
          go_ret
          exact ⟨by rw [HZ.out.1]; rfl, HZ.out.2⟩
        by_cases c2 : 32 < p.bits
        · have HZ : Hid (wrong ps = 2 ∧ Below w.heap.size w w3) := Lib.hid ⟨HE1.out (fun h => by have := (HV.out.1 h).2; omega), (HB3.out _ (Below.refl _ _)).2⟩
          clear HE1 HE2 HE3 HE4 HPJ HF1' HF2 HW HS0 HB3 HBW HV HLT
          go_wp2_with fail
          go_ret
          exact ⟨by rw [HZ.out.1]; rfl, HZ.out.2⟩
        have hval := HV.out.2 ⟨by omega, by omega⟩
        obtain ⟨nb, hnb⟩ := Int.eq_ofNat_of_zero_le (show 0 ≤ p.bits by omega)
        have hpb : p.b = nb := by unfold Pf.b; omega
        have HF1 : Hid (∀ w, Calls Try.prog 24 #[.agg #[.int .u8 p.ad.a0, .int .u8 p.ad.a1, .int .u8 p.ad.a2, .int .u8 p.ad.a3], .int .i64 (nb : Int)] w fun e w' => e = .returned (.int .i64 (fb p.n nb)) ∧ Below w.heap.size w w') := Lib.hid (by have := HF1'.out hval; rw [hpb] at this; exact this)
        have hlow : fb p.n nb = fb p.n 32 ↔ low p := by rw [← hpb]; exact fb_low
        have HS : Hid (∀ W, Below w3.heap.size w3 W → W.cell? ⟨wr.heap.size, 0, none⟩ = some (.int .u8 p.ad.a0) ∧ W.cell? ⟨wr.heap.size, 1, none⟩ = some (.int .u8 p.ad.a1) ∧ W.cell? ⟨wr.heap.size, 2, none⟩ = some (.int .u8 p.ad.a2) ∧ W.cell? ⟨wr.heap.size, 3, none⟩ = some (.int .u8 p.ad.a3) ∧ W.cell? ⟨wr.heap.size, 4, none⟩ = some (.int .i64 (nb : Int)) ∧ W.cell? ⟨wr.heap.size, 5, none⟩ = some (.int .i64 p.led)) := Lib.hid (fun W hW => by have := HS0.out W hW; rw [hnb] at this; exact this)
        have HSR : Hid (∀ r : Pf, (r.bits = (nb : Int) ∧ fb r.n 32 = fb p.n 32) ↔ same r p) := Lib.hid (fun r => by
          unfold same
          rw [fb_all, fb_all, hnb]
          constructor
          · rintro ⟨h1, h2⟩; exact ⟨h1, by omega⟩
          · rintro ⟨h1, h2⟩; exact ⟨h1, by omega⟩)
        rw [hnb] at r4 c0 c2
        have hnb2 : nb ≤ 32 := by omega
        clear HS0 HF1' hnb hpb HE1 HV
        obtain ⟨Z, hZ⟩ : ∃ Z, Z = wr.heap.size := ⟨_, rfl⟩
        rw [← hZ] at r0 r1 r2 r3 r4 r5 HS
        by_cases cL : low p
        case neg =>
          have hne : (fb p.n nb != fb p.n 32) = true := by
            simp only [bne_iff_ne]
            exact fun h => cL (hlow.1 h)
          have HZ : Hid (∀ W, Below w3.heap.size w3 W → wrong ps = 1 ∧ Below w.heap.size w W) := Lib.hid (fun W hW => ⟨HE2.out hval cL, (HB3.out _ hW).2⟩)
          clear HE2 HE3 HE4 HPJ HW HB3 HBW HLT hlow hval cL HSR
          generalize fb p.n nb = X1 at *
          generalize fb p.n 32 = X2 at *
          rw [← hZ]
          clear hZ
          go_upto_region 8 with fail
          clear r0 r1 r2 r3 r4 r5
          refine wp_region_held_drew (S := (fun W => W.cell? ⟨Z, 0, none⟩ = some (.int .u8 p.ad.a0) ∧ W.cell? ⟨Z, 1, none⟩ = some (.int .u8 p.ad.a1) ∧ W.cell? ⟨Z, 2, none⟩ = some (.int .u8 p.ad.a2) ∧ W.cell? ⟨Z, 3, none⟩ = some (.int .u8 p.ad.a3) ∧ W.cell? ⟨Z, 4, none⟩ = some (.int .i64 (nb : Int)) ∧ W.cell? ⟨Z, 5, none⟩ = some (.int .i64 p.led))) (by kernel_rfl) (HS.out _ (Below.refl _ _).drew) (fun hHeld => ?_)
          obtain ⟨w0, hw0⟩ : ∃ W0, W0 = w3.drew := ⟨_, rfl⟩
          have HB0 : Hid (Below w3.heap.size w3 w0) := Lib.hid (by rw [hw0]; exact (Below.refl _ _).drew)
          rw [← hw0] at hHeld ⊢
          clear hw0
          refine wpAnyH_take (i := 0) (v := ?_) (by simp only [List.getElem?_toArray, List.getElem?_cons_zero] <;> rfl) (by kernel_rfl) (by kernel_rfl) (by kernel_rfl) (by exact fun _ _ _ h => h) (Or.inl ⟨by rfl, ?_⟩) hHeld ?_
          rotate_left
          · intro w hSw; (try dsimp only at hSw); go_simp; (try with_reducible rfl)
          (try simp only [Act.put, List.setIfInBounds_toArray, List.set_cons_zero, List.set_cons_succ])
          refine wpAnyH_take (i := 1) (v := ?_) (by simp only [List.getElem?_toArray, List.getElem?_cons_succ, List.getElem?_cons_zero] <;> rfl) (by kernel_rfl) (by kernel_rfl) (by kernel_rfl) (by exact fun _ _ _ h => h) (Or.inl ⟨by rfl, ?_⟩) hHeld ?_
          rotate_left
          · intro w hSw; (try dsimp only at hSw); go_simp; (try with_reducible rfl)
          (try simp only [Act.put, List.setIfInBounds_toArray, List.set_cons_zero, List.set_cons_succ])
          refine wpAnyH_take (i := 2) (v := ?_) (by simp only [List.getElem?_toArray, List.getElem?_cons_succ, List.getElem?_cons_zero] <;> rfl) (by kernel_rfl) (by kernel_rfl) (by kernel_rfl) (by exact fun _ _ _ h => h) (Or.inl ⟨by rfl, ?_⟩) hHeld ?_
          rotate_left
          · intro w hSw; (try dsimp only at hSw); go_simp; (try with_reducible rfl)
          (try simp only [Act.put, List.setIfInBounds_toArray, List.set_cons_zero, List.set_cons_succ])
          refine wpAnyH_take (i := 3) (v := ?_) (by simp only [List.getElem?_toArray, List.getElem?_cons_succ, List.getElem?_cons_zero] <;> rfl) (by kernel_rfl) (by kernel_rfl) (by kernel_rfl) (by exact fun _ _ _ h => h) (Or.inl ⟨by rfl, ?_⟩) hHeld ?_
          rotate_left
          · intro w hSw; (try dsimp only at hSw); go_simp; (try with_reducible rfl)
          (try simp only [Act.put, List.setIfInBounds_toArray, List.set_cons_zero, List.set_cons_succ])
          refine wpAnyH_take (i := 5) (v := ?_) (by simp only [List.getElem?_toArray, List.getElem?_cons_succ, List.getElem?_cons_zero] <;> rfl) (by kernel_rfl) (by kernel_rfl) (by kernel_rfl) (by exact fun _ _ _ h => h) (Or.inl ⟨by rfl, ?_⟩) hHeld ?_
          rotate_left
          · intro w hSw; (try dsimp only at hSw); go_simp; (try with_reducible rfl)
          (try simp only [Act.put, List.setIfInBounds_toArray, List.set_cons_zero, List.set_cons_succ])
          refine wpAnyH_take (i := 6) (v := ?_) (by simp only [List.getElem?_toArray, List.getElem?_cons_succ, List.getElem?_cons_zero] <;> rfl) (by kernel_rfl) (by kernel_rfl) (by kernel_rfl) (by exact fun _ _ _ h => h) (Or.inl ⟨by rfl, ?_⟩) hHeld ?_
          rotate_left
          · intro w hSw; (try dsimp only at hSw); go_simp; (try with_reducible rfl)
          (try simp only [Act.put, List.setIfInBounds_toArray, List.set_cons_zero, List.set_cons_succ])
          refine wpAnyH_ready (rs := [4]) (by kernel_rfl) (by simp) ?_
          refine AllReadyH.cons (by simp only [List.getElem?_toArray, List.getElem?_cons_succ, List.getElem?_cons_zero] <;> rfl) (fun K hK => ?_) AllReadyH.nil
          go_simp
          go_at_call 24
          refine (HF1.out _).mono ?_
          rintro e w1 ⟨rfl, hb1⟩
          have HB1 := Lib.hid (HB0.out.trans (hb1.mono HB0.out.size))
          clear hb1
          go_wp2_with fail
          refine hK.out _ _ ?_ (fun hHeld => ?_)
          · exact HS.out _ HB1.out
          clear hK K
          (try simp only [Act.put, List.setIfInBounds_toArray, List.set_cons_zero, List.set_cons_succ])
          refine wpAnyH_ready (rs := [7]) (by kernel_rfl) (by simp) ?_
          refine AllReadyH.cons (by simp only [List.getElem?_toArray, List.getElem?_cons_succ, List.getElem?_cons_zero] <;> rfl) (fun K hK => ?_) AllReadyH.nil
          go_simp
          go_at_call 24
          refine (HF2.out _).mono ?_
          rintro e w2 ⟨rfl, hb2⟩
          have HB2 := Lib.hid (HB1.out.trans (hb2.mono HB1.out.size))
          clear hb2
          go_wp2_with fail
          refine hK.out _ _ ?_ (fun hHeld => ?_)
          · exact HS.out _ HB2.out
          clear hK K
          (try simp only [Act.put, List.setIfInBounds_toArray, List.set_cons_zero, List.set_cons_succ])
          refine wpAnyH_take (i := 8) (v := ?_) (by simp only [List.getElem?_toArray, List.getElem?_cons_succ, List.getElem?_cons_zero] <;> rfl) (by kernel_rfl) (by kernel_rfl) (by kernel_rfl) (by exact fun _ _ _ h => h) (Or.inl ⟨by rfl, ?_⟩) hHeld ?_
          rotate_left
          · intro w hSw; (try dsimp only at hSw); go_simp; (try with_reducible rfl)
          (try simp only [Act.put, List.setIfInBounds_toArray, List.set_cons_zero, List.set_cons_succ])
          refine wpAnyH_done (by kernel_rfl) ?_ _
          go_wp2_with fail
          go_ret
          exact ⟨by rw [(HZ.out _ HB2.out).1]; rfl, (HZ.out _ HB2.out).2⟩
        have hne : (fb p.n nb != fb p.n 32) = false := by
          rw [hlow.2 cL]
          simp
        have HE3' := Lib.hid (HE3.out hval cL)
        have HE4' := Lib.hid (HE4.out hval cL)
        have HZZ := Lib.hid hZ
        rw [← hZ]
        clear HE2 HE3 HE4 HW HBW hlow hval cL hZ
        generalize fb p.n nb = X1 at *
        generalize fb p.n 32 = X2 at *
        go_upto_region 8 with fail
        clear r0 r1 r2 r3 r4 r5
        refine wp_region_held_drew (S := (fun W => W.cell? ⟨Z, 0, none⟩ = some (.int .u8 p.ad.a0) ∧ W.cell? ⟨Z, 1, none⟩ = some (.int .u8 p.ad.a1) ∧ W.cell? ⟨Z, 2, none⟩ = some (.int .u8 p.ad.a2) ∧ W.cell? ⟨Z, 3, none⟩ = some (.int .u8 p.ad.a3) ∧ W.cell? ⟨Z, 4, none⟩ = some (.int .i64 (nb : Int)) ∧ W.cell? ⟨Z, 5, none⟩ = some (.int .i64 p.led))) (by kernel_rfl) (HS.out _ (Below.refl _ _).drew) (fun hHeld => ?_)
        obtain ⟨w0, hw0⟩ : ∃ W0, W0 = w3.drew := ⟨_, rfl⟩
        have HB0 : Hid (Below w3.heap.size w3 w0) := Lib.hid (by rw [hw0]; exact (Below.refl _ _).drew)
        rw [← hw0] at hHeld ⊢
        clear hw0
        refine wpAnyH_take (i := 0) (v := ?_) (by simp only [List.getElem?_toArray, List.getElem?_cons_zero] <;> rfl) (by kernel_rfl) (by kernel_rfl) (by kernel_rfl) (by exact fun _ _ _ h => h) (Or.inl ⟨by rfl, ?_⟩) hHeld ?_
        rotate_left
        · intro w hSw; (try dsimp only at hSw); go_simp; (try with_reducible rfl)
        (try simp only [Act.put, List.setIfInBounds_toArray, List.set_cons_zero, List.set_cons_succ])
        refine wpAnyH_take (i := 1) (v := ?_) (by simp only [List.getElem?_toArray, List.getElem?_cons_succ, List.getElem?_cons_zero] <;> rfl) (by kernel_rfl) (by kernel_rfl) (by kernel_rfl) (by exact fun _ _ _ h => h) (Or.inl ⟨by rfl, ?_⟩) hHeld ?_
        rotate_left
        · intro w hSw; (try dsimp only at hSw); go_simp; (try with_reducible rfl)
        (try simp only [Act.put, List.setIfInBounds_toArray, List.set_cons_zero, List.set_cons_succ])
        refine wpAnyH_take (i := 2) (v := ?_) (by simp only [List.getElem?_toArray, List.getElem?_cons_succ, List.getElem?_cons_zero] <;> rfl) (by kernel_rfl) (by kernel_rfl) (by kernel_rfl) (by exact fun _ _ _ h => h) (Or.inl ⟨by rfl, ?_⟩) hHeld ?_
        rotate_left
        · intro w hSw; (try dsimp only at hSw); go_simp; (try with_reducible rfl)
        (try simp only [Act.put, List.setIfInBounds_toArray, List.set_cons_zero, List.set_cons_succ])
        refine wpAnyH_take (i := 3) (v := ?_) (by simp only [List.getElem?_toArray, List.getElem?_cons_succ, List.getElem?_cons_zero] <;> rfl) (by kernel_rfl) (by kernel_rfl) (by kernel_rfl) (by exact fun _ _ _ h => h) (Or.inl ⟨by rfl, ?_⟩) hHeld ?_
        rotate_left
        · intro w hSw; (try dsimp only at hSw); go_simp; (try with_reducible rfl)
        (try simp only [Act.put, List.setIfInBounds_toArray, List.set_cons_zero, List.set_cons_succ])
        refine wpAnyH_take (i := 5) (v := ?_) (by simp only [List.getElem?_toArray, List.getElem?_cons_succ, List.getElem?_cons_zero] <;> rfl) (by kernel_rfl) (by kernel_rfl) (by kernel_rfl) (by exact fun _ _ _ h => h) (Or.inl ⟨by rfl, ?_⟩) hHeld ?_
        rotate_left
        · intro w hSw; (try dsimp only at hSw); go_simp; (try with_reducible rfl)
        (try simp only [Act.put, List.setIfInBounds_toArray, List.set_cons_zero, List.set_cons_succ])
        refine wpAnyH_take (i := 6) (v := ?_) (by simp only [List.getElem?_toArray, List.getElem?_cons_succ, List.getElem?_cons_zero] <;> rfl) (by kernel_rfl) (by kernel_rfl) (by kernel_rfl) (by exact fun _ _ _ h => h) (Or.inl ⟨by rfl, ?_⟩) hHeld ?_
        rotate_left
        · intro w hSw; (try dsimp only at hSw); go_simp; (try with_reducible rfl)
        (try simp only [Act.put, List.setIfInBounds_toArray, List.set_cons_zero, List.set_cons_succ])
        refine wpAnyH_ready (rs := [4]) (by kernel_rfl) (by simp) ?_
        refine AllReadyH.cons (by simp only [List.getElem?_toArray, List.getElem?_cons_succ, List.getElem?_cons_zero] <;> rfl) (fun K hK => ?_) AllReadyH.nil
        go_simp
        go_at_call 24
        refine (HF1.out _).mono ?_
        rintro e w1 ⟨rfl, hb1⟩
        have HB1 := Lib.hid (HB0.out.trans (hb1.mono HB0.out.size))
        clear hb1
        go_wp2_with fail
        refine hK.out _ _ ?_ (fun hHeld => ?_)
        · exact HS.out _ HB1.out
        clear hK K
        (try simp only [Act.put, List.setIfInBounds_toArray, List.set_cons_zero, List.set_cons_succ])
        refine wpAnyH_ready (rs := [7]) (by kernel_rfl) (by simp) ?_
        refine AllReadyH.cons (by simp only [List.getElem?_toArray, List.getElem?_cons_succ, List.getElem?_cons_zero] <;> rfl) (fun K hK => ?_) AllReadyH.nil
        go_simp
        go_at_call 24
        refine (HF2.out _).mono ?_
        rintro e w2 ⟨rfl, hb2⟩
        have HB2 := Lib.hid (HB1.out.trans (hb2.mono HB1.out.size))
        clear hb2
        go_wp2_with fail
        refine hK.out _ _ ?_ (fun hHeld => ?_)
        · exact HS.out _ HB2.out
        clear hK K
        (try simp only [Act.put, List.setIfInBounds_toArray, List.set_cons_zero, List.set_cons_succ])
        refine wpAnyH_take (i := 8) (v := ?_) (by simp only [List.getElem?_toArray, List.getElem?_cons_succ, List.getElem?_cons_zero] <;> rfl) (by kernel_rfl) (by kernel_rfl) (by kernel_rfl) (by exact fun _ _ _ h => h) (Or.inl ⟨by rfl, ?_⟩) hHeld ?_
        rotate_left
        · intro w hSw; (try dsimp only at hSw); go_simp; (try with_reducible rfl)
        (try simp only [Act.put, List.setIfInBounds_toArray, List.set_cons_zero, List.set_cons_succ])
        refine wpAnyH_done (by kernel_rfl) ?_ _
        have HX := Lib.hid HB2.out
        clear HB0 HB1 HB2 hHeld HF1 hne
        go_wp2_with fail
        go_loopg [34] i (fun kk v34 W => ∃ j : Nat, v34 = .int .i64 (j : Int) ∧ j + kk = i ∧ Hid (Below w3.heap.size w3 W ∧ ∀ r ∈ ps.take j, ¬ same r p))
        case atStart => exact ⟨0, rfl, by omega, Lib.hid ⟨HX.out, fun r hr => by cases hr⟩⟩
        case round =>
          clear HX
          obtain ⟨j, rfl, hjk, HJ⟩ := hrel
          cases gk with
          | zero =>
            obtain rfl : j = i := by omega
            have HG : Hid (FwI w ps (j + 1) wr) := Lib.hid (HE4'.out (fun ⟨r, hr, hs⟩ => HJ.out.2 r hr hs) _ (HB3.out _ HJ.out.1).2)
            clear HE3' HE4' HPJ HJ HB3 HSR HS
            go_wp2_with fail
            go_roundg k
            case measure => omega
            case rel => exact ⟨j + 1, by go_num, by omega, HG⟩
          | succ kk =>
            have hj : j < i := by omega
            have j1 : (j : Int) < (i : Int) := by omega
            have j2 : (j : Int) < (n : Int) := by omega
            obtain ⟨r, hr, hra, hro⟩ := HPJ.out wr (HB3.out wr HJ.out.1).1 j hj
            have HSi : Hid (∀ W, Below wr.heap.size wr W → (fun W => (W.cell? ⟨bl, off + j * 6, none⟩ = some (.int .u8 r.ad.a0) ∧ W.cell? ⟨bl, off + j * 6 + 1, none⟩ = some (.int .u8 r.ad.a1) ∧ W.cell? ⟨bl, off + j * 6 + 2, none⟩ = some (.int .u8 r.ad.a2) ∧ W.cell? ⟨bl, off + j * 6 + 3, none⟩ = some (.int .u8 r.ad.a3) ∧ W.cell? ⟨bl, off + j * 6 + 4, none⟩ = some (.int .i64 r.bits) ∧ W.cell? ⟨bl, off + j * 6 + 5, none⟩ = some (.int .i64 r.led)) ∧ W.cell? ⟨Z, 0, none⟩ = some (.int .u8 p.ad.a0) ∧ W.cell? ⟨Z, 1, none⟩ = some (.int .u8 p.ad.a1) ∧ W.cell? ⟨Z, 2, none⟩ = some (.int .u8 p.ad.a2) ∧ W.cell? ⟨Z, 3, none⟩ = some (.int .u8 p.ad.a3) ∧ W.cell? ⟨Z, 4, none⟩ = some (.int .i64 (nb : Int)) ∧ W.cell? ⟨Z, 5, none⟩ = some (.int .i64 p.led)) W) := Lib.hid (fun W hW => ⟨hra.below hW (World.block_lt_of_cell? _ _ hra.1), HS.out W (HJ.out.1.trans (hW.mono HJ.out.1.size))⟩)
            have HF3 : Hid (∀ w, Calls Try.prog 24 #[.agg #[.int .u8 r.ad.a0, .int .u8 r.ad.a1, .int .u8 r.ad.a2, .int .u8 r.ad.a3], .int .i64 32] w fun e w' => e = .returned (.int .i64 (fb r.n 32)) ∧ Below w.heap.size w w') := Lib.hid (fun w => fBits_any r.ad hro 32 (by decide) w)
            have HQ1 : Hid (same r p → wrong ps = 6) := Lib.hid (fun hs => HE3'.out ⟨r, List.mem_of_getElem? (by rw [List.getElem?_take_of_lt hj]; exact hr), hs⟩)
            have HQ2 : Hid (¬ same r p → ∀ W, Below wr.heap.size wr W → Below w3.heap.size w3 W ∧ ∀ r ∈ ps.take (j + 1), ¬ same r p) := Lib.hid (fun hs W hW => ⟨HJ.out.1.trans (hW.mono HJ.out.1.size), fun r' hr' => by
              rw [take_snoc hr] at hr'
              rcases List.mem_append.1 hr' with h | h
              · exact HJ.out.2 r' h
              · obtain rfl : r' = r := by simpa using h
                exact hs⟩)
            have HBJ : Hid (∀ W, Below wr.heap.size wr W → Below w.heap.size w W) := Lib.hid (fun W hW => (HB3.out W (HJ.out.1.trans (hW.mono HJ.out.1.size))).2)
            have hsr := HSR.out r
            clear HS
            have HS := HSi
            clear HSi hra hro hr HJ HPJ HB3 HSR HE3' HE4' HLT HZZ
            generalize same r p = SM at *
            generalize fb r.n 32 = X3 at *
            cases cb : (r.bits == (nb : Int)) with
            | false =>
              have hns : ¬ SM := fun h => by
                have := (hsr.2 h).1
                simp [this] at cb
              have HG := Lib.hid (HQ2.out hns)
              clear HQ1 HQ2 hsr HBJ
              go_upto_region 13 with fail
              refine wp_region_held_drew (S := (fun W => (W.cell? ⟨bl, off + j * 6, none⟩ = some (.int .u8 r.ad.a0) ∧ W.cell? ⟨bl, off + j * 6 + 1, none⟩ = some (.int .u8 r.ad.a1) ∧ W.cell? ⟨bl, off + j * 6 + 2, none⟩ = some (.int .u8 r.ad.a2) ∧ W.cell? ⟨bl, off + j * 6 + 3, none⟩ = some (.int .u8 r.ad.a3) ∧ W.cell? ⟨bl, off + j * 6 + 4, none⟩ = some (.int .i64 r.bits) ∧ W.cell? ⟨bl, off + j * 6 + 5, none⟩ = some (.int .i64 r.led)) ∧ W.cell? ⟨Z, 0, none⟩ = some (.int .u8 p.ad.a0) ∧ W.cell? ⟨Z, 1, none⟩ = some (.int .u8 p.ad.a1) ∧ W.cell? ⟨Z, 2, none⟩ = some (.int .u8 p.ad.a2) ∧ W.cell? ⟨Z, 3, none⟩ = some (.int .u8 p.ad.a3) ∧ W.cell? ⟨Z, 4, none⟩ = some (.int .i64 (nb : Int)) ∧ W.cell? ⟨Z, 5, none⟩ = some (.int .i64 p.led))) (by kernel_rfl) (HS.out _ (Below.refl _ _).drew) (fun hHeld => ?_)
              obtain ⟨w0, hw0⟩ : ∃ W0, W0 = wr.drew := ⟨_, rfl⟩
              have HB0 : Hid (Below wr.heap.size wr w0) := Lib.hid (by rw [hw0]; exact (Below.refl _ _).drew)
              rw [← hw0] at hHeld ⊢
              clear hw0
              refine wpAnyH_take (i := 0) (v := ?_) (by simp only [List.getElem?_toArray, List.getElem?_cons_zero] <;> rfl) (by kernel_rfl) (by kernel_rfl) (by kernel_rfl) (by exact fun _ _ _ h => h) (Or.inl ⟨by rfl, ?_⟩) hHeld ?_
              rotate_left
              · intro w hSw; (try dsimp only at hSw); go_simp; (try with_reducible rfl)
              (try simp only [Act.put, List.setIfInBounds_toArray, List.set_cons_zero, List.set_cons_succ])
              refine wpAnyH_take (i := 1) (v := ?_) (by simp only [List.getElem?_toArray, List.getElem?_cons_succ, List.getElem?_cons_zero] <;> rfl) (by kernel_rfl) (by kernel_rfl) (by kernel_rfl) (by exact fun _ _ _ h => h) (Or.inl ⟨by rfl, ?_⟩) hHeld ?_
              rotate_left
              · intro w hSw; (try dsimp only at hSw); go_simp; (try with_reducible rfl)
              (try simp only [Act.put, List.setIfInBounds_toArray, List.set_cons_zero, List.set_cons_succ])
              refine wpAnyH_take (i := 2) (v := ?_) (by simp only [List.getElem?_toArray, List.getElem?_cons_succ, List.getElem?_cons_zero] <;> rfl) (by kernel_rfl) (by kernel_rfl) (by kernel_rfl) (by exact fun _ _ _ h => h) (Or.inl ⟨by rfl, ?_⟩) hHeld ?_
              rotate_left
              · intro w hSw; (try dsimp only at hSw); go_simp; (try with_reducible rfl)
              (try simp only [Act.put, List.setIfInBounds_toArray, List.set_cons_zero, List.set_cons_succ])
              refine wpAnyH_take (i := 3) (v := ?_) (by simp only [List.getElem?_toArray, List.getElem?_cons_succ, List.getElem?_cons_zero] <;> rfl) (by kernel_rfl) (by kernel_rfl) (by kernel_rfl) (by exact fun _ _ _ h => h) (Or.inl ⟨by rfl, ?_⟩) hHeld ?_
              rotate_left
              · intro w hSw; (try dsimp only at hSw); go_simp; (try with_reducible rfl)
              (try simp only [Act.put, List.setIfInBounds_toArray, List.set_cons_zero, List.set_cons_succ])
              refine wpAnyH_take (i := 4) (v := ?_) (by simp only [List.getElem?_toArray, List.getElem?_cons_succ, List.getElem?_cons_zero] <;> rfl) (by kernel_rfl) (by kernel_rfl) (by kernel_rfl) (by exact fun _ _ _ h => h) (Or.inl ⟨by rfl, ?_⟩) hHeld ?_
              rotate_left
              · intro w hSw; (try dsimp only at hSw); go_simp; (try with_reducible rfl)
              (try simp only [Act.put, List.setIfInBounds_toArray, List.set_cons_zero, List.set_cons_succ])
              refine wpAnyH_take (i := 5) (v := ?_) (by simp only [List.getElem?_toArray, List.getElem?_cons_succ, List.getElem?_cons_zero] <;> rfl) (by kernel_rfl) (by kernel_rfl) (by kernel_rfl) (by exact fun _ _ _ h => h) (Or.inl ⟨by rfl, ?_⟩) hHeld ?_
              rotate_left
              · intro w hSw; (try dsimp only at hSw); go_simp; (try with_reducible rfl)
              (try simp only [Act.put, List.setIfInBounds_toArray, List.set_cons_zero, List.set_cons_succ])
              refine wpAnyH_take (i := 6) (v := ?_) (by simp only [List.getElem?_toArray, List.getElem?_cons_succ, List.getElem?_cons_zero] <;> rfl) (by kernel_rfl) (by kernel_rfl) (by kernel_rfl) (by exact fun _ _ _ h => h) (Or.inl ⟨by rfl, ?_⟩) hHeld ?_
              rotate_left
              · intro w hSw; (try dsimp only at hSw); go_simp; (try with_reducible rfl)
              (try simp only [Act.put, List.setIfInBounds_toArray, List.set_cons_zero, List.set_cons_succ])
              refine wpAnyH_take (i := 7) (v := ?_) (by simp only [List.getElem?_toArray, List.getElem?_cons_succ, List.getElem?_cons_zero] <;> rfl) (by kernel_rfl) (by kernel_rfl) (by kernel_rfl) (by exact fun _ _ _ h => h) (Or.inl ⟨by rfl, ?_⟩) hHeld ?_
              rotate_left
              · intro w hSw; (try dsimp only at hSw); go_simp; (try with_reducible rfl)
              (try simp only [Act.put, List.setIfInBounds_toArray, List.set_cons_zero, List.set_cons_succ])
              refine wpAnyH_take (i := 8) (v := ?_) (by simp only [List.getElem?_toArray, List.getElem?_cons_succ, List.getElem?_cons_zero] <;> rfl) (by kernel_rfl) (by kernel_rfl) (by kernel_rfl) (by exact fun _ _ _ h => h) (Or.inl ⟨by rfl, ?_⟩) hHeld ?_
              rotate_left
              · intro w hSw; (try dsimp only at hSw); go_simp; (try with_reducible rfl)
              (try simp only [Act.put, List.setIfInBounds_toArray, List.set_cons_zero, List.set_cons_succ])
              refine wpAnyH_take (i := 9) (v := undef) (by simp only [List.getElem?_toArray, List.getElem?_cons_succ, List.getElem?_cons_zero] <;> rfl) (by kernel_rfl) (by kernel_rfl) (by kernel_rfl) (by exact fun _ _ _ h => h) (Or.inr ⟨by rfl, rfl⟩) hHeld ?_
              (try simp only [Act.put, List.setIfInBounds_toArray, List.set_cons_zero, List.set_cons_succ])
              refine wpAnyH_take (i := 10) (v := undef) (by simp only [List.getElem?_toArray, List.getElem?_cons_succ, List.getElem?_cons_zero] <;> rfl) (by kernel_rfl) (by kernel_rfl) (by kernel_rfl) (by exact fun _ _ _ h => h) (Or.inr ⟨by rfl, rfl⟩) hHeld ?_
              (try simp only [Act.put, List.setIfInBounds_toArray, List.set_cons_zero, List.set_cons_succ])
              refine wpAnyH_take (i := 11) (v := undef) (by simp only [List.getElem?_toArray, List.getElem?_cons_succ, List.getElem?_cons_zero] <;> rfl) (by kernel_rfl) (by kernel_rfl) (by kernel_rfl) (by exact fun _ _ _ h => h) (Or.inr ⟨by rfl, rfl⟩) hHeld ?_
              (try simp only [Act.put, List.setIfInBounds_toArray, List.set_cons_zero, List.set_cons_succ])
              refine wpAnyH_take (i := 12) (v := undef) (by simp only [List.getElem?_toArray, List.getElem?_cons_succ, List.getElem?_cons_zero] <;> rfl) (by kernel_rfl) (by kernel_rfl) (by kernel_rfl) (by exact fun _ _ _ h => h) (Or.inr ⟨by rfl, rfl⟩) hHeld ?_
              (try simp only [Act.put, List.setIfInBounds_toArray, List.set_cons_zero, List.set_cons_succ])
              refine wpAnyH_take (i := 13) (v := undef) (by simp only [List.getElem?_toArray, List.getElem?_cons_succ, List.getElem?_cons_zero] <;> rfl) (by kernel_rfl) (by kernel_rfl) (by kernel_rfl) (by exact fun _ _ _ h => h) (Or.inr ⟨by rfl, rfl⟩) hHeld ?_
              (try simp only [Act.put, List.setIfInBounds_toArray, List.set_cons_zero, List.set_cons_succ])
              refine wpAnyH_take (i := 15) (v := undef) (by simp only [List.getElem?_toArray, List.getElem?_cons_succ, List.getElem?_cons_zero] <;> rfl) (by kernel_rfl) (by kernel_rfl) (by kernel_rfl) (by exact fun _ _ _ h => h) (Or.inr ⟨by rfl, rfl⟩) hHeld ?_
              (try simp only [Act.put, List.setIfInBounds_toArray, List.set_cons_zero, List.set_cons_succ])
              refine wpAnyH_take (i := 16) (v := undef) (by simp only [List.getElem?_toArray, List.getElem?_cons_succ, List.getElem?_cons_zero] <;> rfl) (by kernel_rfl) (by kernel_rfl) (by kernel_rfl) (by exact fun _ _ _ h => h) (Or.inr ⟨by rfl, rfl⟩) hHeld ?_
              (try simp only [Act.put, List.setIfInBounds_toArray, List.set_cons_zero, List.set_cons_succ])
              refine wpAnyH_ready (rs := [14]) (by kernel_rfl) (by simp) ?_
              refine AllReadyH.cons (by simp only [List.getElem?_toArray, List.getElem?_cons_succ, List.getElem?_cons_zero] <;> rfl) (fun K hK => ?_) AllReadyH.nil
              go_simp
              refine hK.out _ _ ?_ (fun hHeld => ?_)
              · exact hHeld
              clear hK K
              (try simp only [Act.put, List.setIfInBounds_toArray, List.set_cons_zero, List.set_cons_succ])
              refine wpAnyH_ready (rs := [17]) (by kernel_rfl) (by simp) ?_
              refine AllReadyH.cons (by simp only [List.getElem?_toArray, List.getElem?_cons_succ, List.getElem?_cons_zero] <;> rfl) (fun K hK => ?_) AllReadyH.nil
              go_simp
              refine hK.out _ _ ?_ (fun hHeld => ?_)
              · exact hHeld
              clear hK K
              (try simp only [Act.put, List.setIfInBounds_toArray, List.set_cons_zero, List.set_cons_succ])
              refine wpAnyH_take (i := 18) (v := undef) (by simp only [List.getElem?_toArray, List.getElem?_cons_succ, List.getElem?_cons_zero] <;> rfl) (by kernel_rfl) (by kernel_rfl) (by kernel_rfl) (by exact fun _ _ _ h => h) (Or.inr ⟨by rfl, rfl⟩) hHeld ?_
              (try simp only [Act.put, List.setIfInBounds_toArray, List.set_cons_zero, List.set_cons_succ])
              refine wpAnyH_take (i := 19) (v := ?_) (by simp only [List.getElem?_toArray, List.getElem?_cons_succ, List.getElem?_cons_zero] <;> rfl) (by kernel_rfl) (by kernel_rfl) (by kernel_rfl) (by exact fun _ _ _ h => h) (Or.inl ⟨by rfl, ?_⟩) hHeld ?_
              rotate_left
              · intro w hSw; (try dsimp only at hSw); go_simp; (try with_reducible rfl)
              (try simp only [Act.put, List.setIfInBounds_toArray, List.set_cons_zero, List.set_cons_succ])
              refine wpAnyH_done (by kernel_rfl) ?_ _
              have HG2 := Lib.hid (HG.out _ HB0.out)
              clear HG HS HF2 HF3
              go_wp2_with fail
              go_roundg kk
              case measure => omega
              case rel => exact ⟨j + 1, by go_num, by omega, HG2⟩
            | true =>
              cases cx : (X3 == X2) with
              | false =>
                have hns : ¬ SM := fun h => by
                  have := (hsr.2 h).2
                  simp [this] at cx
                have HG := Lib.hid (HQ2.out hns)
                clear HQ1 HQ2 hsr HBJ
                go_upto_region 13 with fail
                refine wp_region_held_drew (S := (fun W => (W.cell? ⟨bl, off + j * 6, none⟩ = some (.int .u8 r.ad.a0) ∧ W.cell? ⟨bl, off + j * 6 + 1, none⟩ = some (.int .u8 r.ad.a1) ∧ W.cell? ⟨bl, off + j * 6 + 2, none⟩ = some (.int .u8 r.ad.a2) ∧ W.cell? ⟨bl, off + j * 6 + 3, none⟩ = some (.int .u8 r.ad.a3) ∧ W.cell? ⟨bl, off + j * 6 + 4, none⟩ = some (.int .i64 r.bits) ∧ W.cell? ⟨bl, off + j * 6 + 5, none⟩ = some (.int .i64 r.led)) ∧ W.cell? ⟨Z, 0, none⟩ = some (.int .u8 p.ad.a0) ∧ W.cell? ⟨Z, 1, none⟩ = some (.int .u8 p.ad.a1) ∧ W.cell? ⟨Z, 2, none⟩ = some (.int .u8 p.ad.a2) ∧ W.cell? ⟨Z, 3, none⟩ = some (.int .u8 p.ad.a3) ∧ W.cell? ⟨Z, 4, none⟩ = some (.int .i64 (nb : Int)) ∧ W.cell? ⟨Z, 5, none⟩ = some (.int .i64 p.led))) (by kernel_rfl) (HS.out _ (Below.refl _ _).drew) (fun hHeld => ?_)
                obtain ⟨w0, hw0⟩ : ∃ W0, W0 = wr.drew := ⟨_, rfl⟩
                have HB0 : Hid (Below wr.heap.size wr w0) := Lib.hid (by rw [hw0]; exact (Below.refl _ _).drew)
                rw [← hw0] at hHeld ⊢
                clear hw0
                refine wpAnyH_take (i := 0) (v := ?_) (by simp only [List.getElem?_toArray, List.getElem?_cons_zero] <;> rfl) (by kernel_rfl) (by kernel_rfl) (by kernel_rfl) (by exact fun _ _ _ h => h) (Or.inl ⟨by rfl, ?_⟩) hHeld ?_
                rotate_left
                · intro w hSw; (try dsimp only at hSw); go_simp; (try with_reducible rfl)
                (try simp only [Act.put, List.setIfInBounds_toArray, List.set_cons_zero, List.set_cons_succ])
                refine wpAnyH_take (i := 1) (v := ?_) (by simp only [List.getElem?_toArray, List.getElem?_cons_succ, List.getElem?_cons_zero] <;> rfl) (by kernel_rfl) (by kernel_rfl) (by kernel_rfl) (by exact fun _ _ _ h => h) (Or.inl ⟨by rfl, ?_⟩) hHeld ?_
                rotate_left
                · intro w hSw; (try dsimp only at hSw); go_simp; (try with_reducible rfl)
                (try simp only [Act.put, List.setIfInBounds_toArray, List.set_cons_zero, List.set_cons_succ])
                refine wpAnyH_take (i := 2) (v := ?_) (by simp only [List.getElem?_toArray, List.getElem?_cons_succ, List.getElem?_cons_zero] <;> rfl) (by kernel_rfl) (by kernel_rfl) (by kernel_rfl) (by exact fun _ _ _ h => h) (Or.inl ⟨by rfl, ?_⟩) hHeld ?_
                rotate_left
                · intro w hSw; (try dsimp only at hSw); go_simp; (try with_reducible rfl)
                (try simp only [Act.put, List.setIfInBounds_toArray, List.set_cons_zero, List.set_cons_succ])
                refine wpAnyH_take (i := 3) (v := ?_) (by simp only [List.getElem?_toArray, List.getElem?_cons_succ, List.getElem?_cons_zero] <;> rfl) (by kernel_rfl) (by kernel_rfl) (by kernel_rfl) (by exact fun _ _ _ h => h) (Or.inl ⟨by rfl, ?_⟩) hHeld ?_
                rotate_left
                · intro w hSw; (try dsimp only at hSw); go_simp; (try with_reducible rfl)
                (try simp only [Act.put, List.setIfInBounds_toArray, List.set_cons_zero, List.set_cons_succ])
                refine wpAnyH_take (i := 4) (v := ?_) (by simp only [List.getElem?_toArray, List.getElem?_cons_succ, List.getElem?_cons_zero] <;> rfl) (by kernel_rfl) (by kernel_rfl) (by kernel_rfl) (by exact fun _ _ _ h => h) (Or.inl ⟨by rfl, ?_⟩) hHeld ?_
                rotate_left
                · intro w hSw; (try dsimp only at hSw); go_simp; (try with_reducible rfl)
                (try simp only [Act.put, List.setIfInBounds_toArray, List.set_cons_zero, List.set_cons_succ])
                refine wpAnyH_take (i := 5) (v := ?_) (by simp only [List.getElem?_toArray, List.getElem?_cons_succ, List.getElem?_cons_zero] <;> rfl) (by kernel_rfl) (by kernel_rfl) (by kernel_rfl) (by exact fun _ _ _ h => h) (Or.inl ⟨by rfl, ?_⟩) hHeld ?_
                rotate_left
                · intro w hSw; (try dsimp only at hSw); go_simp; (try with_reducible rfl)
                (try simp only [Act.put, List.setIfInBounds_toArray, List.set_cons_zero, List.set_cons_succ])
                refine wpAnyH_take (i := 6) (v := ?_) (by simp only [List.getElem?_toArray, List.getElem?_cons_succ, List.getElem?_cons_zero] <;> rfl) (by kernel_rfl) (by kernel_rfl) (by kernel_rfl) (by exact fun _ _ _ h => h) (Or.inl ⟨by rfl, ?_⟩) hHeld ?_
                rotate_left
                · intro w hSw; (try dsimp only at hSw); go_simp; (try with_reducible rfl)
                (try simp only [Act.put, List.setIfInBounds_toArray, List.set_cons_zero, List.set_cons_succ])
                refine wpAnyH_take (i := 7) (v := ?_) (by simp only [List.getElem?_toArray, List.getElem?_cons_succ, List.getElem?_cons_zero] <;> rfl) (by kernel_rfl) (by kernel_rfl) (by kernel_rfl) (by exact fun _ _ _ h => h) (Or.inl ⟨by rfl, ?_⟩) hHeld ?_
                rotate_left
                · intro w hSw; (try dsimp only at hSw); go_simp; (try with_reducible rfl)
                (try simp only [Act.put, List.setIfInBounds_toArray, List.set_cons_zero, List.set_cons_succ])
                refine wpAnyH_take (i := 8) (v := ?_) (by simp only [List.getElem?_toArray, List.getElem?_cons_succ, List.getElem?_cons_zero] <;> rfl) (by kernel_rfl) (by kernel_rfl) (by kernel_rfl) (by exact fun _ _ _ h => h) (Or.inl ⟨by rfl, ?_⟩) hHeld ?_
                rotate_left
                · intro w hSw; (try dsimp only at hSw); go_simp; (try with_reducible rfl)
                (try simp only [Act.put, List.setIfInBounds_toArray, List.set_cons_zero, List.set_cons_succ])
                refine wpAnyH_take (i := 9) (v := ?_) (by simp only [List.getElem?_toArray, List.getElem?_cons_succ, List.getElem?_cons_zero] <;> rfl) (by kernel_rfl) (by kernel_rfl) (by kernel_rfl) (by exact fun _ _ _ h => h) (Or.inl ⟨by rfl, ?_⟩) hHeld ?_
                rotate_left
                · intro w hSw; (try dsimp only at hSw); go_simp; (try with_reducible rfl)
                (try simp only [Act.put, List.setIfInBounds_toArray, List.set_cons_zero, List.set_cons_succ])
                refine wpAnyH_take (i := 10) (v := ?_) (by simp only [List.getElem?_toArray, List.getElem?_cons_succ, List.getElem?_cons_zero] <;> rfl) (by kernel_rfl) (by kernel_rfl) (by kernel_rfl) (by exact fun _ _ _ h => h) (Or.inl ⟨by rfl, ?_⟩) hHeld ?_
                rotate_left
                · intro w hSw; (try dsimp only at hSw); go_simp; (try with_reducible rfl)
                (try simp only [Act.put, List.setIfInBounds_toArray, List.set_cons_zero, List.set_cons_succ])
                refine wpAnyH_take (i := 11) (v := ?_) (by simp only [List.getElem?_toArray, List.getElem?_cons_succ, List.getElem?_cons_zero] <;> rfl) (by kernel_rfl) (by kernel_rfl) (by kernel_rfl) (by exact fun _ _ _ h => h) (Or.inl ⟨by rfl, ?_⟩) hHeld ?_
                rotate_left
                · intro w hSw; (try dsimp only at hSw); go_simp; (try with_reducible rfl)
                (try simp only [Act.put, List.setIfInBounds_toArray, List.set_cons_zero, List.set_cons_succ])
                refine wpAnyH_take (i := 12) (v := ?_) (by simp only [List.getElem?_toArray, List.getElem?_cons_succ, List.getElem?_cons_zero] <;> rfl) (by kernel_rfl) (by kernel_rfl) (by kernel_rfl) (by exact fun _ _ _ h => h) (Or.inl ⟨by rfl, ?_⟩) hHeld ?_
                rotate_left
                · intro w hSw; (try dsimp only at hSw); go_simp; (try with_reducible rfl)
                (try simp only [Act.put, List.setIfInBounds_toArray, List.set_cons_zero, List.set_cons_succ])
                refine wpAnyH_take (i := 13) (v := ?_) (by simp only [List.getElem?_toArray, List.getElem?_cons_succ, List.getElem?_cons_zero] <;> rfl) (by kernel_rfl) (by kernel_rfl) (by kernel_rfl) (by exact fun _ _ _ h => h) (Or.inl ⟨by rfl, ?_⟩) hHeld ?_
                rotate_left
                · intro w hSw; (try dsimp only at hSw); go_simp; (try with_reducible rfl)
                (try simp only [Act.put, List.setIfInBounds_toArray, List.set_cons_zero, List.set_cons_succ])
                refine wpAnyH_take (i := 15) (v := ?_) (by simp only [List.getElem?_toArray, List.getElem?_cons_succ, List.getElem?_cons_zero] <;> rfl) (by kernel_rfl) (by kernel_rfl) (by kernel_rfl) (by exact fun _ _ _ h => h) (Or.inl ⟨by rfl, ?_⟩) hHeld ?_
                rotate_left
                · intro w hSw; (try dsimp only at hSw); go_simp; (try with_reducible rfl)
                (try simp only [Act.put, List.setIfInBounds_toArray, List.set_cons_zero, List.set_cons_succ])
                refine wpAnyH_take (i := 16) (v := ?_) (by simp only [List.getElem?_toArray, List.getElem?_cons_succ, List.getElem?_cons_zero] <;> rfl) (by kernel_rfl) (by kernel_rfl) (by kernel_rfl) (by exact fun _ _ _ h => h) (Or.inl ⟨by rfl, ?_⟩) hHeld ?_
                rotate_left
                · intro w hSw; (try dsimp only at hSw); go_simp; (try with_reducible rfl)
                (try simp only [Act.put, List.setIfInBounds_toArray, List.set_cons_zero, List.set_cons_succ])
                refine wpAnyH_ready (rs := [14]) (by kernel_rfl) (by simp) ?_
                refine AllReadyH.cons (by simp only [List.getElem?_toArray, List.getElem?_cons_succ, List.getElem?_cons_zero] <;> rfl) (fun K hK => ?_) AllReadyH.nil
                go_simp
                go_at_call 24
                refine (HF3.out _).mono ?_
                rintro e w1 ⟨rfl, hb1⟩
                have HB1 := Lib.hid (HB0.out.trans (hb1.mono HB0.out.size))
                clear hb1
                go_wp2_with fail
                refine hK.out _ _ ?_ (fun hHeld => ?_)
                · exact HS.out _ HB1.out
                clear hK K
                (try simp only [Act.put, List.setIfInBounds_toArray, List.set_cons_zero, List.set_cons_succ])
                refine wpAnyH_ready (rs := [17]) (by kernel_rfl) (by simp) ?_
                refine AllReadyH.cons (by simp only [List.getElem?_toArray, List.getElem?_cons_succ, List.getElem?_cons_zero] <;> rfl) (fun K hK => ?_) AllReadyH.nil
                go_simp
                go_at_call 24
                refine (HF2.out _).mono ?_
                rintro e w2 ⟨rfl, hb2⟩
                have HB2 := Lib.hid (HB1.out.trans (hb2.mono HB1.out.size))
                clear hb2
                go_wp2_with fail
                refine hK.out _ _ ?_ (fun hHeld => ?_)
                · exact HS.out _ HB2.out
                clear hK K
                (try simp only [Act.put, List.setIfInBounds_toArray, List.set_cons_zero, List.set_cons_succ])
                refine wpAnyH_take (i := 18) (v := ?_) (by simp only [List.getElem?_toArray, List.getElem?_cons_succ, List.getElem?_cons_zero] <;> rfl) (by kernel_rfl) (by kernel_rfl) (by kernel_rfl) (by exact fun _ _ _ h => h) (Or.inl ⟨by rfl, ?_⟩) hHeld ?_
                rotate_left
                · intro w hSw; (try dsimp only at hSw); go_simp; (try with_reducible rfl)
                (try simp only [Act.put, List.setIfInBounds_toArray, List.set_cons_zero, List.set_cons_succ])
                refine wpAnyH_take (i := 19) (v := ?_) (by simp only [List.getElem?_toArray, List.getElem?_cons_succ, List.getElem?_cons_zero] <;> rfl) (by kernel_rfl) (by kernel_rfl) (by kernel_rfl) (by exact fun _ _ _ h => h) (Or.inl ⟨by rfl, ?_⟩) hHeld ?_
                rotate_left
                · intro w hSw; (try dsimp only at hSw); go_simp; (try with_reducible rfl)
                (try simp only [Act.put, List.setIfInBounds_toArray, List.set_cons_zero, List.set_cons_succ])
                refine wpAnyH_done (by kernel_rfl) ?_ _
                have HG2 := Lib.hid (HG.out _ HB2.out)
                clear HG HS HF2 HF3
                go_wp2_with fail
                go_roundg kk
                case measure => omega
                case rel => exact ⟨j + 1, by go_num, by omega, HG2⟩
              | true =>
                have hs : SM := hsr.1 ⟨by simpa using cb, by simpa using cx⟩
                have HG := Lib.hid (HQ1.out hs)
                clear HQ1 HQ2 hsr
                go_upto_region 13 with fail
                refine wp_region_held_drew (S := (fun W => (W.cell? ⟨bl, off + j * 6, none⟩ = some (.int .u8 r.ad.a0) ∧ W.cell? ⟨bl, off + j * 6 + 1, none⟩ = some (.int .u8 r.ad.a1) ∧ W.cell? ⟨bl, off + j * 6 + 2, none⟩ = some (.int .u8 r.ad.a2) ∧ W.cell? ⟨bl, off + j * 6 + 3, none⟩ = some (.int .u8 r.ad.a3) ∧ W.cell? ⟨bl, off + j * 6 + 4, none⟩ = some (.int .i64 r.bits) ∧ W.cell? ⟨bl, off + j * 6 + 5, none⟩ = some (.int .i64 r.led)) ∧ W.cell? ⟨Z, 0, none⟩ = some (.int .u8 p.ad.a0) ∧ W.cell? ⟨Z, 1, none⟩ = some (.int .u8 p.ad.a1) ∧ W.cell? ⟨Z, 2, none⟩ = some (.int .u8 p.ad.a2) ∧ W.cell? ⟨Z, 3, none⟩ = some (.int .u8 p.ad.a3) ∧ W.cell? ⟨Z, 4, none⟩ = some (.int .i64 (nb : Int)) ∧ W.cell? ⟨Z, 5, none⟩ = some (.int .i64 p.led))) (by kernel_rfl) (HS.out _ (Below.refl _ _).drew) (fun hHeld => ?_)
                obtain ⟨w0, hw0⟩ : ∃ W0, W0 = wr.drew := ⟨_, rfl⟩
                have HB0 : Hid (Below wr.heap.size wr w0) := Lib.hid (by rw [hw0]; exact (Below.refl _ _).drew)
                rw [← hw0] at hHeld ⊢
                clear hw0
                refine wpAnyH_take (i := 0) (v := ?_) (by simp only [List.getElem?_toArray, List.getElem?_cons_zero] <;> rfl) (by kernel_rfl) (by kernel_rfl) (by kernel_rfl) (by exact fun _ _ _ h => h) (Or.inl ⟨by rfl, ?_⟩) hHeld ?_
                rotate_left
                · intro w hSw; (try dsimp only at hSw); go_simp; (try with_reducible rfl)
                (try simp only [Act.put, List.setIfInBounds_toArray, List.set_cons_zero, List.set_cons_succ])
                refine wpAnyH_take (i := 1) (v := ?_) (by simp only [List.getElem?_toArray, List.getElem?_cons_succ, List.getElem?_cons_zero] <;> rfl) (by kernel_rfl) (by kernel_rfl) (by kernel_rfl) (by exact fun _ _ _ h => h) (Or.inl ⟨by rfl, ?_⟩) hHeld ?_
                rotate_left
                · intro w hSw; (try dsimp only at hSw); go_simp; (try with_reducible rfl)
                (try simp only [Act.put, List.setIfInBounds_toArray, List.set_cons_zero, List.set_cons_succ])
                refine wpAnyH_take (i := 2) (v := ?_) (by simp only [List.getElem?_toArray, List.getElem?_cons_succ, List.getElem?_cons_zero] <;> rfl) (by kernel_rfl) (by kernel_rfl) (by kernel_rfl) (by exact fun _ _ _ h => h) (Or.inl ⟨by rfl, ?_⟩) hHeld ?_
                rotate_left
                · intro w hSw; (try dsimp only at hSw); go_simp; (try with_reducible rfl)
                (try simp only [Act.put, List.setIfInBounds_toArray, List.set_cons_zero, List.set_cons_succ])
                refine wpAnyH_take (i := 3) (v := ?_) (by simp only [List.getElem?_toArray, List.getElem?_cons_succ, List.getElem?_cons_zero] <;> rfl) (by kernel_rfl) (by kernel_rfl) (by kernel_rfl) (by exact fun _ _ _ h => h) (Or.inl ⟨by rfl, ?_⟩) hHeld ?_
                rotate_left
                · intro w hSw; (try dsimp only at hSw); go_simp; (try with_reducible rfl)
                (try simp only [Act.put, List.setIfInBounds_toArray, List.set_cons_zero, List.set_cons_succ])
                refine wpAnyH_take (i := 4) (v := ?_) (by simp only [List.getElem?_toArray, List.getElem?_cons_succ, List.getElem?_cons_zero] <;> rfl) (by kernel_rfl) (by kernel_rfl) (by kernel_rfl) (by exact fun _ _ _ h => h) (Or.inl ⟨by rfl, ?_⟩) hHeld ?_
                rotate_left
                · intro w hSw; (try dsimp only at hSw); go_simp; (try with_reducible rfl)
                (try simp only [Act.put, List.setIfInBounds_toArray, List.set_cons_zero, List.set_cons_succ])
                refine wpAnyH_take (i := 5) (v := ?_) (by simp only [List.getElem?_toArray, List.getElem?_cons_succ, List.getElem?_cons_zero] <;> rfl) (by kernel_rfl) (by kernel_rfl) (by kernel_rfl) (by exact fun _ _ _ h => h) (Or.inl ⟨by rfl, ?_⟩) hHeld ?_
                rotate_left
                · intro w hSw; (try dsimp only at hSw); go_simp; (try with_reducible rfl)
                (try simp only [Act.put, List.setIfInBounds_toArray, List.set_cons_zero, List.set_cons_succ])
                refine wpAnyH_take (i := 6) (v := ?_) (by simp only [List.getElem?_toArray, List.getElem?_cons_succ, List.getElem?_cons_zero] <;> rfl) (by kernel_rfl) (by kernel_rfl) (by kernel_rfl) (by exact fun _ _ _ h => h) (Or.inl ⟨by rfl, ?_⟩) hHeld ?_
                rotate_left
                · intro w hSw; (try dsimp only at hSw); go_simp; (try with_reducible rfl)
                (try simp only [Act.put, List.setIfInBounds_toArray, List.set_cons_zero, List.set_cons_succ])
                refine wpAnyH_take (i := 7) (v := ?_) (by simp only [List.getElem?_toArray, List.getElem?_cons_succ, List.getElem?_cons_zero] <;> rfl) (by kernel_rfl) (by kernel_rfl) (by kernel_rfl) (by exact fun _ _ _ h => h) (Or.inl ⟨by rfl, ?_⟩) hHeld ?_
                rotate_left
                · intro w hSw; (try dsimp only at hSw); go_simp; (try with_reducible rfl)
                (try simp only [Act.put, List.setIfInBounds_toArray, List.set_cons_zero, List.set_cons_succ])
                refine wpAnyH_take (i := 8) (v := ?_) (by simp only [List.getElem?_toArray, List.getElem?_cons_succ, List.getElem?_cons_zero] <;> rfl) (by kernel_rfl) (by kernel_rfl) (by kernel_rfl) (by exact fun _ _ _ h => h) (Or.inl ⟨by rfl, ?_⟩) hHeld ?_
                rotate_left
                · intro w hSw; (try dsimp only at hSw); go_simp; (try with_reducible rfl)
                (try simp only [Act.put, List.setIfInBounds_toArray, List.set_cons_zero, List.set_cons_succ])
                refine wpAnyH_take (i := 9) (v := ?_) (by simp only [List.getElem?_toArray, List.getElem?_cons_succ, List.getElem?_cons_zero] <;> rfl) (by kernel_rfl) (by kernel_rfl) (by kernel_rfl) (by exact fun _ _ _ h => h) (Or.inl ⟨by rfl, ?_⟩) hHeld ?_
                rotate_left
                · intro w hSw; (try dsimp only at hSw); go_simp; (try with_reducible rfl)
                (try simp only [Act.put, List.setIfInBounds_toArray, List.set_cons_zero, List.set_cons_succ])
                refine wpAnyH_take (i := 10) (v := ?_) (by simp only [List.getElem?_toArray, List.getElem?_cons_succ, List.getElem?_cons_zero] <;> rfl) (by kernel_rfl) (by kernel_rfl) (by kernel_rfl) (by exact fun _ _ _ h => h) (Or.inl ⟨by rfl, ?_⟩) hHeld ?_
                rotate_left
                · intro w hSw; (try dsimp only at hSw); go_simp; (try with_reducible rfl)
                (try simp only [Act.put, List.setIfInBounds_toArray, List.set_cons_zero, List.set_cons_succ])
                refine wpAnyH_take (i := 11) (v := ?_) (by simp only [List.getElem?_toArray, List.getElem?_cons_succ, List.getElem?_cons_zero] <;> rfl) (by kernel_rfl) (by kernel_rfl) (by kernel_rfl) (by exact fun _ _ _ h => h) (Or.inl ⟨by rfl, ?_⟩) hHeld ?_
                rotate_left
                · intro w hSw; (try dsimp only at hSw); go_simp; (try with_reducible rfl)
                (try simp only [Act.put, List.setIfInBounds_toArray, List.set_cons_zero, List.set_cons_succ])
                refine wpAnyH_take (i := 12) (v := ?_) (by simp only [List.getElem?_toArray, List.getElem?_cons_succ, List.getElem?_cons_zero] <;> rfl) (by kernel_rfl) (by kernel_rfl) (by kernel_rfl) (by exact fun _ _ _ h => h) (Or.inl ⟨by rfl, ?_⟩) hHeld ?_
                rotate_left
                · intro w hSw; (try dsimp only at hSw); go_simp; (try with_reducible rfl)
                (try simp only [Act.put, List.setIfInBounds_toArray, List.set_cons_zero, List.set_cons_succ])
                refine wpAnyH_take (i := 13) (v := ?_) (by simp only [List.getElem?_toArray, List.getElem?_cons_succ, List.getElem?_cons_zero] <;> rfl) (by kernel_rfl) (by kernel_rfl) (by kernel_rfl) (by exact fun _ _ _ h => h) (Or.inl ⟨by rfl, ?_⟩) hHeld ?_
                rotate_left
                · intro w hSw; (try dsimp only at hSw); go_simp; (try with_reducible rfl)
                (try simp only [Act.put, List.setIfInBounds_toArray, List.set_cons_zero, List.set_cons_succ])
                refine wpAnyH_take (i := 15) (v := ?_) (by simp only [List.getElem?_toArray, List.getElem?_cons_succ, List.getElem?_cons_zero] <;> rfl) (by kernel_rfl) (by kernel_rfl) (by kernel_rfl) (by exact fun _ _ _ h => h) (Or.inl ⟨by rfl, ?_⟩) hHeld ?_
                rotate_left
                · intro w hSw; (try dsimp only at hSw); go_simp; (try with_reducible rfl)
                (try simp only [Act.put, List.setIfInBounds_toArray, List.set_cons_zero, List.set_cons_succ])
                refine wpAnyH_take (i := 16) (v := ?_) (by simp only [List.getElem?_toArray, List.getElem?_cons_succ, List.getElem?_cons_zero] <;> rfl) (by kernel_rfl) (by kernel_rfl) (by kernel_rfl) (by exact fun _ _ _ h => h) (Or.inl ⟨by rfl, ?_⟩) hHeld ?_
                rotate_left
                · intro w hSw; (try dsimp only at hSw); go_simp; (try with_reducible rfl)
                (try simp only [Act.put, List.setIfInBounds_toArray, List.set_cons_zero, List.set_cons_succ])
                refine wpAnyH_ready (rs := [14]) (by kernel_rfl) (by simp) ?_
                refine AllReadyH.cons (by simp only [List.getElem?_toArray, List.getElem?_cons_succ, List.getElem?_cons_zero] <;> rfl) (fun K hK => ?_) AllReadyH.nil
                go_simp
                go_at_call 24
                refine (HF3.out _).mono ?_
                rintro e w1 ⟨rfl, hb1⟩
                have HB1 := Lib.hid (HB0.out.trans (hb1.mono HB0.out.size))
                clear hb1
                go_wp2_with fail
                refine hK.out _ _ ?_ (fun hHeld => ?_)
                · exact HS.out _ HB1.out
                clear hK K
                (try simp only [Act.put, List.setIfInBounds_toArray, List.set_cons_zero, List.set_cons_succ])
                refine wpAnyH_ready (rs := [17]) (by kernel_rfl) (by simp) ?_
                refine AllReadyH.cons (by simp only [List.getElem?_toArray, List.getElem?_cons_succ, List.getElem?_cons_zero] <;> rfl) (fun K hK => ?_) AllReadyH.nil
                go_simp
                go_at_call 24
                refine (HF2.out _).mono ?_
                rintro e w2 ⟨rfl, hb2⟩
                have HB2 := Lib.hid (HB1.out.trans (hb2.mono HB1.out.size))
                clear hb2
                go_wp2_with fail
                refine hK.out _ _ ?_ (fun hHeld => ?_)
                · exact HS.out _ HB2.out
                clear hK K
                (try simp only [Act.put, List.setIfInBounds_toArray, List.set_cons_zero, List.set_cons_succ])
                refine wpAnyH_take (i := 18) (v := ?_) (by simp only [List.getElem?_toArray, List.getElem?_cons_succ, List.getElem?_cons_zero] <;> rfl) (by kernel_rfl) (by kernel_rfl) (by kernel_rfl) (by exact fun _ _ _ h => h) (Or.inl ⟨by rfl, ?_⟩) hHeld ?_
                rotate_left
                · intro w hSw; (try dsimp only at hSw); go_simp; (try with_reducible rfl)
                (try simp only [Act.put, List.setIfInBounds_toArray, List.set_cons_zero, List.set_cons_succ])
                refine wpAnyH_take (i := 19) (v := ?_) (by simp only [List.getElem?_toArray, List.getElem?_cons_succ, List.getElem?_cons_zero] <;> rfl) (by kernel_rfl) (by kernel_rfl) (by kernel_rfl) (by exact fun _ _ _ h => h) (Or.inl ⟨by rfl, ?_⟩) hHeld ?_
                rotate_left
                · intro w hSw; (try dsimp only at hSw); go_simp; (try with_reducible rfl)
                (try simp only [Act.put, List.setIfInBounds_toArray, List.set_cons_zero, List.set_cons_succ])
                refine wpAnyH_done (by kernel_rfl) ?_ _
                have HG2 := Lib.hid (HBJ.out _ HB2.out)
                clear HS HF2 HF3
                go_wp2_with fail
                go_ret
                exact ⟨by rw [HG.out]; rfl, HG2.out⟩
end Go.Proofs.Ytcadjgmglaimdaa
