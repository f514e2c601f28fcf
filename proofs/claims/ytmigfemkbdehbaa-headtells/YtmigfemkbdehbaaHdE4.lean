/- The reference's EWrite. -/
import Derived.Test.YtmigfemkbdehbaaHdE3
import Derived.Laws.EntriesVeiled
namespace Go.Proofs.Ytmigfemkbdehbaa
open Go.RowKit Go.Maps

set_option maxRecDepth 100000 in
set_option maxHeartbeats 2000000 in
theorem eWrite_bad (h : Hd) (hf : h.Fine) (w : World) (hw : h.wrong ≠ 0) :
    Calls Try.prog 9 #[.agg h.cells.toArray] w fun e w' => e = .returned (.tuple #[.slice none 0 0, .int .i64 h.wrong]) ∧ Below w.heap.size w w' := by
  have HQ := Lib.hid (headAt_new w h)
  have ha : Below w.heap.size w (w.alloc (.cells h.cells.toArray 24)) := (Below.refl _ _).alloc (Nat.le_refl _) _
  have H1 := Lib.hid (eWrong_any h (w.alloc (.cells h.cells.toArray 24)) hf.sp hf.dp)
  have HB := Lib.hid ha
  generalize h.wrong = R at *
  have hr' : (R != 0) = true := by simpa using hw
  clear ha hw hf
  go_enter Try.func9, Try.ntmps9
  go_wp2_with (refine wpList_load_head rfl (.tmp 1) rfl w.heap.size h rfl HQ.out ?_)
  refine H1.out.mono ?_
  rintro e w1 ⟨rfl, hb⟩
  have hb1 := HB.out.trans (hb.mono HB.out.size)
  have HB1 := Lib.hid hb1
  clear hb hb1
  go_wp2_with fail
  go_ret2
  exact ⟨rfl, HB1.out⟩

theorem step_append_eq {P : Program} {ops : Array Oper} {o : Oper} {a : Act} {w : World} {K : Act → World → Prop} {Q : Exit → Act → World → Prop} {E : Prop}
    (hg : o.guard = none) (s x : Operand) (t : TypeId) (hop : o.op = Op.call { callee := Callee.builtin Builtin.append, args := #[s, x], argTypes := #[t, t] })
    {vs vx v : Value} {w' : World} (hs : a.eval s = vs) (hx : a.eval x = vx) (hrun : (Builtin.append_ #[t, t] o.type #[vs, vx]).run P w = .ok v w') (hK : K (a.put o.dst v) w') :
    if Region.wanted o (yielded ops a.tmps) = true then Oper.wp P o a w K Q else E := by
  have hw : Region.wanted o (yielded ops a.tmps) = true := by simp [Region.wanted, hg]
  rw [if_pos hw]
  unfold Oper.wp execOp
  simp only [hop, resolve, invoke, builtin, Sem.run_bind, Sem.run_pure, Result.andThen_ok, List.map_toArray, List.map_cons, List.map_nil, hs, hx, hrun]
  exact hK
/-- An append that leaves bytes in other blocks as they were. -/
theorem bytes_append_keep {B : Nat} {w : World} {v : Value} {us xs : List Int} (h : OwnB B w v us) {a : Addr} (hs : Lies w (some a) xs) (cap : Nat) (hB : B ≤ w.heap.size) (hn : us.length + xs.length ≤ 140737488355328) :
    ∃ v' W, (∀ ty, (Builtin.append_ #[25, 25] ty #[v, .slice (some a) xs.length cap]).run Try.prog w = .ok v' W) ∧ OwnB B W v' (us ++ xs) ∧ Below B w W ∧
      ∀ (x : Nat) (ys : List Int), Lies w (some ⟨x, 0, none⟩) ys → (∀ g, v.ownBlock = some g → g ≠ x) → Lies W (some ⟨x, 0, none⟩) ys := by
  obtain ⟨i0, hi, hz0, hz1, hz2⟩ := info_parts info_u8
  have key := fun ty => run_append_own_at (P := Try.prog) w B 25 ty 5 i0 _ 1 1 under_u8s hi hz0 hz1 hz2 rfl (by decide) v us.length (u8s us) h
    a xs.length cap (u8s xs) (by simp [u8s]) (lies_news hs) (u8s_one xs) (by simp only [maxLen]; omega) (by omega) hB
  obtain ⟨v', W, hr, h2, h3, _, _⟩ := key 0
  refine ⟨v', W, fun ty => hr, ?_, below_grown h3 hB (fun k e => (World.ownsRow.lt h k e).1), fun x ys hL hne => ?_⟩
  · unfold OwnB
    rw [u8s_append, List.length_append]
    exact h2
  · refine ⟨fun h0 => ?_, hL.bytes, hL.len⟩
    obtain ⟨b, off, e, hb, hc⟩ := hL.at_ h0
    injection e with e
    injection e with e1 e2
    subst e1 e2
    refine ⟨x, 0, rfl, Nat.lt_of_lt_of_le hb h3.size, fun j y hy => ?_⟩
    rw [← hc j y hy]
    have hblk := h3.block x hb (fun e => hne x e.symm rfl)
    simp only [World.cell?, hblk]

theorem zeros_next (j : Nat) (xs : List Int) : (xs ++ List.replicate j 0) ++ [0] = xs ++ List.replicate (j + 1) (0 : Int) := by
  rw [List.append_assoc, ← List.replicate_succ']
theorem packet_plain {h : Hd} {n : Nat} (hp : ported h.pr = false) (hn : h.ln.toNat = n) : h.first h.check ++ List.replicate (n - 20) 0 = h.packet := by
  unfold Hd.packet Hd.rest
  rw [hp, if_neg (by simp), hn]
theorem packet_ports {h : Hd} {n : Nat} (hp : ported h.pr = true) (hn : h.ln.toNat = n) : (h.first h.check ++ ([h.sp / 256, h.sp % 256] ++ [h.dp / 256, h.dp % 256])) ++ List.replicate (n - 24) 0 = h.packet := by
  unfold Hd.packet Hd.rest
  rw [hp, if_pos rfl, hn]
  simp

set_option maxRecDepth 100000 in
set_option maxHeartbeats 4000000 in
theorem eWrite_good (h : Hd) (hf : h.Fine) (w : World) (hs : h.Sound) (hw : h.wrong = 0) :
    Calls Try.prog 9 #[.agg h.cells.toArray] w fun e w' => ∃ v, e = .returned (.tuple #[v, .int .i64 0]) ∧ OwnB w.heap.size w' v h.packet ∧ Below w.heap.size w w' := by
  have HQ := Lib.hid (headAt_new w h)
  have ha : Below w.heap.size w (w.alloc (.cells h.cells.toArray 24)) := (Below.refl _ _).alloc (Nat.le_refl _) _
  have H1 := eWrong_any h (w.alloc (.cells h.cells.toArray 24)) hf.sp hf.dp
  rw [hw] at H1
  have H1' := Lib.hid H1
  have HB := Lib.hid ha
  obtain ⟨n, hn⟩ := Int.eq_ofNat_of_zero_le (show 0 ≤ h.ln by have := hs.ln.1; omega)
  have hnn : 20 ≤ n ∧ n < 65536 := by have := hs.ln; omega
  have hln : h.ln.toNat = n := by omega
  have HN := Lib.hid (And.intro hn hln)
  have HSD := Lib.hid hs
  clear ha H1 hw hn hln hs hf
  go_enter Try.func9, Try.ntmps9
  go_wp2_with (refine wpList_load_head rfl (.tmp 1) rfl w.heap.size h rfl HQ.out ?_)
  refine H1'.out.mono ?_
  rintro e w1 ⟨rfl, hb⟩
  have hb1 := HB.out.trans (hb.mono HB.out.size)
  have hq1 := HQ.out.below hb HQ.out.lt
  have HQ1 := Lib.hid (And.intro hq1 hb1)
  clear hb hb1 hq1 H1' HB HQ
  go_upto_region 5 with fail
  obtain ⟨W0, hW0⟩ : ∃ W0, W0 = w1.alloc (.cells #[.func (.func 18) #[] #[]] 43) := ⟨_, rfl⟩
  obtain ⟨k, hk⟩ : ∃ k, k = w1.heap.size := ⟨_, rfl⟩
  have hck : W0.cell? ⟨k, 0, none⟩ = some (.func (.func 18) #[] #[]) := by rw [hW0, hk, cell_of_row _ w1.heap.size _ _ _ _ (heap_alloc_new w1 _)]; rfl
  have hkl : k < W0.heap.size := by rw [hW0, hk]; simp
  have hb0 : Below w1.heap.size w1 W0 := by rw [hW0]; exact (Below.refl _ _).alloc (Nat.le_refl _) _
  have hq0 := HQ1.out.1.below hb0 HQ1.out.1.lt
  have hbw0 := HQ1.out.2.trans (hb0.mono HQ1.out.2.size)
  have HK := Lib.hid (And.intro hq0 (And.intro hck (And.intro hkl hbw0)))
  rw [← hW0, ← hk]
  clear hW0 hk hck hkl hb0 hq0 hbw0 HQ1
  have HL1 := Lib.hid (fun W (hW : Below W0.heap.size W0 W) {c : Int} (hc : Half c) => lay_any HSD.out hc (HK.out.1.below hW HK.out.1.lt) ((hW.cell (p := ⟨k, 0, none⟩) HK.out.2.2.1).trans HK.out.2.1) (Nat.lt_of_lt_of_le HK.out.2.2.1 hW.size))
  have L1 := Lib.hid (HL1.out W0 (Below.refl _ _) (c := 0) ⟨by omega, by omega⟩)
  go_wp2_with fail
  refine L1.out.mono ?_
  rintro e W1 ⟨v1, rfl, ho1, hb1⟩
  obtain ⟨A1, cap1, rfl, hL1⟩ := ho1.form (HSD.out.bytes_first ⟨by omega, by omega⟩) (by rw [first_length]; omega)
  have HD := Lib.hid (dof_any hL1 cap1)
  have hchk : 65535 - fd (tot 0 (h.first 0)) = h.check := rfl
  have HCH := Lib.hid HSD.out.half_check
  have L2 := Lib.hid (HL1.out W1 hb1 HSD.out.half_check)
  have HB1 := Lib.hid hb1
  have hf0 : 0 ≤ fd (tot 0 (h.first 0)) ∧ fd (tot 0 (h.first 0)) < 65536 := by obtain ⟨a, b⟩ := HSD.out.half_check; omega
  generalize fd (tot 0 (h.first 0)) = Tt at *
  generalize hcke : h.check = ck at *
  have HCK := Lib.hid hcke
  clear hcke
  clear L1 ho1 hL1 hb1
  go_wp2_with fail
  refine HD.out.mono ?_
  rintro e W2 ⟨rfl, rfl⟩
  go_wp2_with fail
  refine L2.out.mono ?_
  rintro e W2 ⟨v2, rfl, ho2, hb2⟩
  have ho2' := own_lower ho2 HB1.out.size
  have hbb := HB1.out.trans (hb2.mono HB1.out.size)
  have HW2 := Lib.hid (And.intro ho2' hbb)
  have c8 : W2.cell? ⟨w.heap.size, 8, none⟩ = some (.int .i64 h.pr) := (HK.out.1.below hbb HK.out.1.lt).cell 8
  have HEP := Lib.hid (fun w => ePorts_any h.pr w)
  clear ho2 hb2 ho2' hbb L2 HD HL1 HB1
  go_wp2_with fail
  refine (HEP.out _).mono ?_
  rintro e W3 ⟨rfl, rfl⟩
  clear HEP c8
  have HNN := Lib.hid HN.out.1
  clear hchk hf0
  cases hp : ported h.pr with
  | false =>
    have HBY : Hid (Bytes (h.first ck)) := Lib.hid (HSD.out.bytes_first HCH.out)
    have HFIN : Hid (h.first ck ++ List.replicate (n - 20) 0 = h.packet) := Lib.hid (by have := packet_plain hp HN.out.2; rwa [HCK.out] at this)
    have hlen0 : (h.first ck).length = 20 := rfl
    have hby0 : Bytes (h.first ck) := HBY.out
    obtain ⟨bs, hbs⟩ : ∃ bs, bs = h.first ck := ⟨_, rfl⟩
    rw [← hbs] at HW2 HFIN hlen0 hby0
    clear hbs HBY HN HCH
    go_wp2_with fail
    go_loopg [7] (n - 20) (fun kk bv wr => ∃ j, j + kk = n - 20 ∧ Hid (OwnB W0.heap.size wr bv (bs ++ List.replicate j 0) ∧ Below W0.heap.size W0 wr))
    case atStart => exact ⟨0, by omega, Lib.hid ⟨by rw [List.replicate_zero, List.append_nil]; exact HW2.out.1, HW2.out.2⟩⟩
    case round =>
      obtain ⟨j, hjk, HI⟩ := hrel
      have hlj : (bs ++ List.replicate j (0 : Int)).length = 20 + j := by rw [List.length_append, List.length_replicate, hlen0]
      have hbj : Bytes (bs ++ List.replicate j (0 : Int)) := hby0.append (bytes_zeros j)
      obtain ⟨A, cap, rfl, hLj⟩ := HI.out.1.form hbj (by omega)
      rw [hlj] at HI ⊢
      have c11 : wr.cell? ⟨w.heap.size, 11, none⟩ = some (.int .i64 (n : Int)) := by rw [← HNN.out]; exact (HK.out.1.below HI.out.2 HK.out.1.lt).cell 11
      cases gk with
      | zero =>
        obtain rfl : j = n - 20 := by omega
        have HO := Lib.hid (And.intro (own_lower (HFIN.out ▸ HI.out.1) HK.out.2.2.2.size) (HK.out.2.2.2.trans (HI.out.2.mono HK.out.2.2.2.size)))
        have i1 : ¬ (((20 + (n - 20) : Nat) : Int) < (n : Int)) := by omega
        generalize 20 + (n - 20) = ll at *
        clear HI hlj hbj hLj HSD
        go_wp2_with fail
        go_ret2
        exact ⟨_, rfl, HO.out⟩
      | succ kk =>
        have hlit := lies_lit wr [0] (bytes_cons ⟨by omega, by omega⟩ bytes_nil) (by simp)
        have hba : Below wr.heap.size wr (wr.alloc (.cells #[.int .u8 0] 5)) := (Below.refl _ _).alloc (Nat.le_refl _) _
        obtain ⟨v', W', hr, q1, q2⟩ := bytes_append (HI.out.1.below hba) hlit 1 (Nat.le_trans HI.out.2.size hba.size) (by rw [hlj]; simp; omega)
        rw [zeros_next] at q1
        have HQ := Lib.hid (And.intro q1 ((HI.out.2.trans (hba.mono HI.out.2.size)).trans q2))
        have i1 : ((20 + j : Nat) : Int) < (n : Int) := by omega
        have hr' : ∀ ty, (Builtin.append_ #[25, 25] ty #[.slice A (20 + j) cap, .slice (some ⟨wr.heap.size, 0, none⟩) 1 1]).run Try.prog (wr.alloc (.cells #[.int .u8 0] 5)) = .ok v' W' := hr
        generalize 20 + j = ll at *
        clear HI hlj hbj hLj q1 q2 hba hlit HSD hr
        go_wp2_with (at_builtin; refine wpList_append_eq rfl (.tmp 39) (.tmp 40) 25 25 rfl rfl rfl (hr' _) ?_)
        go_roundg kk
        case measure => omega
        case rel => exact ⟨j + 1, by omega, HQ⟩
  | true =>
    have hroom := HSD.out.room hp
    have h24 : 24 ≤ n := by have := HN.out.2; omega
    have HT4 := Lib.hid (fun w => two_any HSD.out.sp w)
    have HT9 := Lib.hid (fun w => two_any HSD.out.dp w)
    have HBY : Hid (Bytes (h.first ck ++ ([h.sp / 256, h.sp % 256] ++ [h.dp / 256, h.dp % 256]))) := Lib.hid ((HSD.out.bytes_first HCH.out).append ((bytes_word HSD.out.sp).append (bytes_word HSD.out.dp)))
    have hS : ∀ W, Below W0.heap.size W0 W → (W.cell? ⟨k, 0, none⟩ = some (.func (.func 18) #[] #[]) ∧ W.cell? ⟨w.heap.size, 9, none⟩ = some (.int .i64 h.sp) ∧ W.cell? ⟨w.heap.size, 10, none⟩ = some (.int .i64 h.dp)) := fun W hW =>
      ⟨(hW.cell (p := ⟨k, 0, none⟩) HK.out.2.2.1).trans HK.out.2.1, (HK.out.1.below hW HK.out.1.lt).cell 9, (HK.out.1.below hW HK.out.1.lt).cell 10⟩
    have HS := Lib.hid hS
    have hvb : ∀ g, v2.ownBlock = some g → g < W2.heap.size := fun g e => (World.ownsRow.lt HW2.out.1 g e).2
    have HVB := Lib.hid hvb
    clear hS hroom hvb
    go_upto_region 8 with fail
    go_cut [7] (fun v wx => Hid (OwnB W0.heap.size wx v (h.first ck ++ ([h.sp / 256, h.sp % 256] ++ [h.dp / 256, h.dp % 256])) ∧ Below W0.heap.size W0 wx))
    case first =>
      refine wp_region_held_drew (S := (fun W => W.cell? ⟨k, 0, none⟩ = some (.func (.func 18) #[] #[]) ∧ W.cell? ⟨w.heap.size, 9, none⟩ = some (.int .i64 h.sp) ∧ W.cell? ⟨w.heap.size, 10, none⟩ = some (.int .i64 h.dp))) (by kernel_rfl) (HS.out _ HW2.out.2.drew) (fun hHeld => ?_)
      refine wpAnyH_take (i := 0) (v := ?_) (by simp only [List.getElem?_toArray, List.getElem?_cons_zero] <;> rfl) (by kernel_rfl) (by kernel_rfl) (by kernel_rfl) (by exact fun _ _ _ h => h) (Or.inl ⟨by rfl, ?_⟩) hHeld ?_
      rotate_left
      · intro w hSw; (try dsimp only at hSw); go_simp; (try with_reducible rfl)
      (try simp only [Act.put, List.setIfInBounds_toArray, List.set_cons_zero, List.set_cons_succ])
      refine wpAnyH_take (i := 1) (v := ?_) (by simp only [List.getElem?_toArray, List.getElem?_cons_succ, List.getElem?_cons_zero] <;> rfl) (by kernel_rfl) (by kernel_rfl) (by kernel_rfl) (by exact fun _ _ _ h => h) (Or.inl ⟨by rfl, ?_⟩) hHeld ?_
      rotate_left
      · intro w hSw; (try dsimp only at hSw); go_simp; (try with_reducible rfl)
      (try simp only [Act.put, List.setIfInBounds_toArray, List.set_cons_zero, List.set_cons_succ])
      refine wpAnyH_take (i := 2) (v := ?_) (by simp only [List.getElem?_toArray, List.getElem?_cons_succ, List.getElem?_cons_zero] <;> rfl) (by kernel_rfl) (by kernel_rfl) (by kernel_rfl) (by exact fun _ _ _ h => h) (Or.inl ⟨by rfl, ?_⟩) hHeld ?_
      rotate_left
      · intro w hSw; (try dsimp only at hSw); go_simp; (try with_reducible rfl)
      (try simp only [Act.put, List.setIfInBounds_toArray, List.set_cons_zero, List.set_cons_succ])
      refine wpAnyH_take (i := 3) (v := ?_) (by simp only [List.getElem?_toArray, List.getElem?_cons_succ, List.getElem?_cons_zero] <;> rfl) (by kernel_rfl) (by kernel_rfl) (by kernel_rfl) (by exact fun _ _ _ h => h) (Or.inl ⟨by rfl, ?_⟩) hHeld ?_
      rotate_left
      · intro w hSw; (try dsimp only at hSw); go_simp; (try with_reducible rfl)
      (try simp only [Act.put, List.setIfInBounds_toArray, List.set_cons_zero, List.set_cons_succ])
      refine wpAnyH_take (i := 6) (v := ?_) (by simp only [List.getElem?_toArray, List.getElem?_cons_succ, List.getElem?_cons_zero] <;> rfl) (by kernel_rfl) (by kernel_rfl) (by kernel_rfl) (by exact fun _ _ _ h => h) (Or.inl ⟨by rfl, ?_⟩) hHeld ?_
      rotate_left
      · intro w hSw; (try dsimp only at hSw); go_simp; (try with_reducible rfl)
      (try simp only [Act.put, List.setIfInBounds_toArray, List.set_cons_zero, List.set_cons_succ])
      refine wpAnyH_take (i := 7) (v := ?_) (by simp only [List.getElem?_toArray, List.getElem?_cons_succ, List.getElem?_cons_zero] <;> rfl) (by kernel_rfl) (by kernel_rfl) (by kernel_rfl) (by exact fun _ _ _ h => h) (Or.inl ⟨by rfl, ?_⟩) hHeld ?_
      rotate_left
      · intro w hSw; (try dsimp only at hSw); go_simp; (try with_reducible rfl)
      (try simp only [Act.put, List.setIfInBounds_toArray, List.set_cons_zero, List.set_cons_succ])
      refine wpAnyH_take (i := 8) (v := ?_) (by simp only [List.getElem?_toArray, List.getElem?_cons_succ, List.getElem?_cons_zero] <;> rfl) (by kernel_rfl) (by kernel_rfl) (by kernel_rfl) (by exact fun _ _ _ h => h) (Or.inl ⟨by rfl, ?_⟩) hHeld ?_
      rotate_left
      · intro w hSw; (try dsimp only at hSw); go_simp; (try with_reducible rfl)
      (try simp only [Act.put, List.setIfInBounds_toArray, List.set_cons_zero, List.set_cons_succ])
      refine wpAnyH_ready (rs := [4]) (by kernel_rfl) (by simp) ?_
      refine AllReadyH.cons (by simp only [List.getElem?_toArray, List.getElem?_cons_succ, List.getElem?_cons_zero] <;> rfl) (fun K hK => ?_) AllReadyH.nil
      go_simp
      go_at_call 18
      refine (HT4.out _).mono ?_
      rintro e V4 ⟨v, rfl, x4, rfl, hx4, hL, hbw⟩
      have HL4 := Lib.hid hL
      clear hL
      go_wp2_with fail
      have HW4 := Lib.hid (And.intro (HW2.out.1.below ((Below.refl W2.heap.size W2).drew.trans hbw)) (HW2.out.2.drew.trans (hbw.mono HW2.out.2.size)))
      have hsz4 : W2.heap.size ≤ V4.heap.size := hbw.size
      refine hK.out _ _ ?_ (fun hHeld => ?_)
      · exact HS.out _ HW4.out.2
      clear hK K hbw
      (try simp only [Act.put, List.setIfInBounds_toArray, List.set_cons_zero, List.set_cons_succ])
      refine wpAnyH_ready (rs := [5]) (by kernel_rfl) (by simp) ?_
      refine AllReadyH.cons (by simp only [List.getElem?_toArray, List.getElem?_cons_succ, List.getElem?_cons_zero] <;> rfl) (fun K hK => ?_) AllReadyH.nil
      obtain ⟨v5, V5, r5, o5, b5, -⟩ := bytes_append_keep HW4.out.1 HL4.out 2 HW4.out.2.size (by rw [first_length]; simp)
      refine step_append_eq rfl (.tmp 23) (.tmp 27) 25 rfl (by rfl) (by rfl) (r5 _) ?_
      have HW5 := Lib.hid (And.intro o5 (HW4.out.2.trans b5))
      refine hK.out _ _ ?_ (fun hHeld => ?_)
      · exact HS.out _ HW5.out.2
      clear hK K o5 b5 r5
      (try simp only [Act.put, List.setIfInBounds_toArray, List.set_cons_zero, List.set_cons_succ])
      refine wpAnyH_ready (rs := [9]) (by kernel_rfl) (by simp) ?_
      refine AllReadyH.cons (by simp only [List.getElem?_toArray, List.getElem?_cons_succ, List.getElem?_cons_zero] <;> rfl) (fun K hK => ?_) AllReadyH.nil
      go_simp
      go_at_call 18
      refine (HT9.out _).mono ?_
      rintro e V9 ⟨v, rfl, x9, rfl, hx9, hL, hbw⟩
      have HL9 := Lib.hid hL
      clear hL
      go_wp2_with fail
      have HW9 := Lib.hid (And.intro (HW5.out.1.below hbw) (HW5.out.2.trans (hbw.mono HW5.out.2.size)))
      refine hK.out _ _ ?_ (fun hHeld => ?_)
      · exact HS.out _ HW9.out.2
      clear hK K hbw
      (try simp only [Act.put, List.setIfInBounds_toArray, List.set_cons_zero, List.set_cons_succ])
      refine wpAnyH_ready (rs := [10]) (by kernel_rfl) (by simp) ?_
      refine AllReadyH.cons (by simp only [List.getElem?_toArray, List.getElem?_cons_succ, List.getElem?_cons_zero] <;> rfl) (fun K hK => ?_) AllReadyH.nil
      obtain ⟨v10, V10, r10, o10, b10, -⟩ := bytes_append_keep HW9.out.1 HL9.out 2 HW9.out.2.size (by rw [List.length_append, first_length]; simp)
      refine step_append_eq rfl (.tmp 28) (.tmp 32) 25 rfl (by rfl) (by rfl) (r10 _) ?_
      rw [List.append_assoc] at o10
      have HW10 := Lib.hid (And.intro o10 (HW9.out.2.trans b10))
      refine hK.out _ _ ?_ (fun hHeld => ?_)
      · exact HS.out _ HW10.out.2
      clear hK K o10 b10 r10
      (try simp only [Act.put, List.setIfInBounds_toArray, List.set_cons_zero, List.set_cons_succ])
      refine wpAnyH_ready (rs := [11]) (by kernel_rfl) (by simp) ?_
      refine AllReadyH.cons (by simp only [List.getElem?_toArray, List.getElem?_cons_succ, List.getElem?_cons_zero] <;> rfl) (fun K hK => ?_) AllReadyH.nil
      go_simp
      refine hK.out _ _ ?_ (fun hHeld => ?_)
      · exact HS.out _ HW10.out.2
      clear hK K
      (try simp only [Act.put, List.setIfInBounds_toArray, List.set_cons_zero, List.set_cons_succ])
      refine wpAnyH_done (by kernel_rfl) ?_ _
      go_wp2_with fail
      go_meet
      exact HW10
    case rest =>
      have HWc := hcut
      clear hcut HS HVB HT4 HT9 HW2
      have HFIN : Hid (h.first ck ++ ([h.sp / 256, h.sp % 256] ++ [h.dp / 256, h.dp % 256]) ++ List.replicate (n - 24) 0 = h.packet) := Lib.hid (by have := packet_ports hp HN.out.2; rwa [HCK.out] at this)
      have hlen0 : (h.first ck ++ ([h.sp / 256, h.sp % 256] ++ [h.dp / 256, h.dp % 256])).length = 24 := rfl
      have hby0 : Bytes (h.first ck ++ ([h.sp / 256, h.sp % 256] ++ [h.dp / 256, h.dp % 256])) := HBY.out
      obtain ⟨bs, hbs⟩ : ∃ bs, bs = h.first ck ++ ([h.sp / 256, h.sp % 256] ++ [h.dp / 256, h.dp % 256]) := ⟨_, rfl⟩
      rw [← hbs] at HWc HFIN hlen0 hby0
      clear hbs HBY HN HCH
      go_wp2_with fail
      go_loopg [7] (n - 24) (fun kk bv wr => ∃ j, j + kk = n - 24 ∧ Hid (OwnB W0.heap.size wr bv (bs ++ List.replicate j 0) ∧ Below W0.heap.size W0 wr))
      case atStart => exact ⟨0, by omega, Lib.hid ⟨by rw [List.replicate_zero, List.append_nil]; exact HWc.out.1, HWc.out.2⟩⟩
      case round =>
        obtain ⟨j, hjk, HI⟩ := hrel
        have hlj : (bs ++ List.replicate j (0 : Int)).length = 24 + j := by rw [List.length_append, List.length_replicate, hlen0]
        have hbj : Bytes (bs ++ List.replicate j (0 : Int)) := hby0.append (bytes_zeros j)
        obtain ⟨A, cap, rfl, hLj⟩ := HI.out.1.form hbj (by omega)
        rw [hlj] at HI ⊢
        have c11 : wr.cell? ⟨w.heap.size, 11, none⟩ = some (.int .i64 (n : Int)) := by rw [← HNN.out]; exact (HK.out.1.below HI.out.2 HK.out.1.lt).cell 11
        cases gk with
        | zero =>
          obtain rfl : j = n - 24 := by omega
          have HO := Lib.hid (And.intro (own_lower (HFIN.out ▸ HI.out.1) HK.out.2.2.2.size) (HK.out.2.2.2.trans (HI.out.2.mono HK.out.2.2.2.size)))
          have i1 : ¬ (((24 + (n - 24) : Nat) : Int) < (n : Int)) := by omega
          generalize 24 + (n - 24) = ll at *
          clear HI hlj hbj hLj HSD
          go_wp2_with fail
          go_ret2
          exact ⟨_, rfl, HO.out⟩
        | succ kk =>
          have hlit := lies_lit wr [0] (bytes_cons ⟨by omega, by omega⟩ bytes_nil) (by simp)
          have hba : Below wr.heap.size wr (wr.alloc (.cells #[.int .u8 0] 5)) := (Below.refl _ _).alloc (Nat.le_refl _) _
          obtain ⟨v', W', hr, q1, q2⟩ := bytes_append (HI.out.1.below hba) hlit 1 (Nat.le_trans HI.out.2.size hba.size) (by rw [hlj]; simp; omega)
          rw [zeros_next] at q1
          have HQ := Lib.hid (And.intro q1 ((HI.out.2.trans (hba.mono HI.out.2.size)).trans q2))
          have i1 : ((24 + j : Nat) : Int) < (n : Int) := by omega
          have hr' : ∀ ty, (Builtin.append_ #[25, 25] ty #[.slice A (24 + j) cap, .slice (some ⟨wr.heap.size, 0, none⟩) 1 1]).run Try.prog (wr.alloc (.cells #[.int .u8 0] 5)) = .ok v' W' := hr
          generalize 24 + j = ll at *
          clear HI hlj hbj hLj q1 q2 hba hlit HSD hr
          go_wp2_with (at_builtin; refine wpList_append_eq rfl (.tmp 39) (.tmp 40) 25 25 rfl rfl rfl (hr' _) ?_)
          go_roundg kk
          case measure => omega
          case rel => exact ⟨j + 1, by omega, HQ⟩
end Go.Proofs.Ytmigfemkbdehbaa
