/- The first rule that fits counts, and rules behind it change nothing: the walk. -/
import Derived.Test.YtandfbepenjbhaaRu7
import Derived.Test.YtandfbepenjbhaaRuCat
import Derived.Test.YtandfbepenjbhaaRuFirst0
namespace Go.Proofs.Ytandfbepenjbhaa
open Go.RowKit Go.Maps

set_option maxRecDepth 100000 in
set_option maxHeartbeats 4000000 in
theorem first1_any {w : World} {bq : Nat} {h : Hd} (hq : HdAt w bq h) (hh : h.Ok) (r : Ru) (hr : r.Ok) :
    Calls Try.prog 20 #[.agg r.cells.toArray, .pointer (some ⟨bq, 0, none⟩)] w fun e w' => e = .returned (.bool (fits h r)) ∧ Below w.heap.size w w' := by
  have H1 := Lib.hid (fun w => fits_any r h hr hh w)
  have HB : Hid (Below w.heap.size w (w.alloc (.cells #[.int .u8 r.src.a0, .int .u8 r.src.a1, .int .u8 r.src.a2, .int .u8 r.src.a3, .int .u8 r.dst.a0, .int .u8 r.dst.a1, .int .u8 r.dst.a2, .int .u8 r.dst.a3, .int .i64 r.sb, .int .i64 r.db, .int .i64 r.pr, .int .i64 r.lo, .int .i64 r.hi, .int .i64 r.cl] 32))) := Lib.hid ((Below.refl _ _).alloc (Nat.le_refl _) _)
  have HL : Hid (RuIn (w.alloc (.cells #[.int .u8 r.src.a0, .int .u8 r.src.a1, .int .u8 r.src.a2, .int .u8 r.src.a3, .int .u8 r.dst.a0, .int .u8 r.dst.a1, .int .u8 r.dst.a2, .int .u8 r.dst.a3, .int .i64 r.sb, .int .i64 r.db, .int .i64 r.pr, .int .i64 r.lo, .int .i64 r.hi, .int .i64 r.cl] 32)) w.heap.size 0 r) := Lib.hid (RuAt.isIn (heap_alloc_new w _))
  have HQ : Hid (HdAt (w.alloc (.cells #[.int .u8 r.src.a0, .int .u8 r.src.a1, .int .u8 r.src.a2, .int .u8 r.src.a3, .int .u8 r.dst.a0, .int .u8 r.dst.a1, .int .u8 r.dst.a2, .int .u8 r.dst.a3, .int .i64 r.sb, .int .i64 r.db, .int .i64 r.pr, .int .i64 r.lo, .int .i64 r.hi, .int .i64 r.cl] 32)) bq h) := Lib.hid (hq.below ((Below.refl _ _).alloc (Nat.le_refl _) _))
  clear hr hh hq
  rw [show Calls Try.prog 20 #[.agg r.cells.toArray, .pointer (some ⟨bq, 0, none⟩)] w = Calls Try.prog 20 #[.agg #[.int .u8 r.src.a0, .int .u8 r.src.a1, .int .u8 r.src.a2, .int .u8 r.src.a3, .int .u8 r.dst.a0, .int .u8 r.dst.a1, .int .u8 r.dst.a2, .int .u8 r.dst.a3, .int .i64 r.sb, .int .i64 r.db, .int .i64 r.pr, .int .i64 r.lo, .int .i64 r.hi, .int .i64 r.cl], .pointer (some ⟨bq, 0, none⟩)] w from rfl]
  go_enter Try.func20, Try.ntmps20
  go_upto_region 1 with fail
  generalize (w.alloc (.cells #[.int .u8 r.src.a0, .int .u8 r.src.a1, .int .u8 r.src.a2, .int .u8 r.src.a3, .int .u8 r.dst.a0, .int .u8 r.dst.a1, .int .u8 r.dst.a2, .int .u8 r.dst.a3, .int .i64 r.sb, .int .i64 r.db, .int .i64 r.pr, .int .i64 r.lo, .int .i64 r.hi, .int .i64 r.cl] 32)) = m at *
  go_wp2_with (first | refine wpList_load_in rfl (.tmp 2) rfl w.heap.size 0 r rfl HL ?_ | refine wpList_load_hd rfl (.tmp 1) rfl bq h rfl HQ ?_)
  refine (H1.out _).mono ?_
  rintro e w1 ⟨rfl, hb⟩
  have HB1 := Lib.hid (HB.out.trans (hb.mono HB.out.size))
  clear hb
  go_wp2_with fail
  go_ret
  exact ⟨rfl, HB1.out⟩

theorem exec_load_hd {o : Oper} {a : Act} {w : World} (x : Operand) (ho : o.op = .load 25 x) (g : Nat) (r : Hd) (hx : a.eval x = .pointer (some ⟨g, 0, none⟩)) (hg : Hid (HdAt w g r)) :
    (execOp a.eval o).run Try.prog w = .ok (.value (.agg r.cells.toArray)) w := by
  unfold execOp
  simp only [ho, hx, Instr.loadAt, Instr.sureAddr, Sem.run_bind, Sem.run_pure, Result.andThen_ok, run_loadVar_row w g 25 25 _ _ _ hg.out Try.underlying25 rfl info_head]

set_option maxRecDepth 100000 in
set_option maxHeartbeats 4000000 in
theorem first_law {w : World} {A B : Option Addr} {xs ys : List Ru} {h : Hd} {n n2 cap cap2 : Nat} (hC : CameR w A cap xs) (hl : xs.length = n) (hD : CameR w B cap2 ys) (hl2 : ys.length = n2) (hh : h.Ok) :
    Calls Try.prog 5 #[.slice A n cap, .slice B n2 cap2, .agg h.cells.toArray] w fun e w' => e = .returned (.bool true) ∧ Below w.heap.size w w' := by
  have H0 := Lib.hid (fun w => alive7_any w)
  have hb0 : Below w.heap.size w (w.alloc (.cells h.cells.toArray 25)) := (Below.refl _ _).alloc (Nat.le_refl _) _
  have hq : HdAt (w.alloc (.cells h.cells.toArray 25)) w.heap.size h := heap_alloc_new w _
  have HC := Lib.hid (hC.below hb0)
  have HD := Lib.hid (hD.below hb0)
  have HQ := Lib.hid hq
  have HBz := Lib.hid hb0
  have HL := Lib.hid (And.intro hl hl2)
  have HH := Lib.hid hh
  have hsz := hC.size
  have hsz2 := hD.size
  rw [hl] at hsz
  rw [hl2] at hsz2
  clear hC hD hb0 hq hl hl2 hh
  go_enter Try.func5, Try.ntmps5
  go_wp2_with fail
  generalize w.alloc (.cells h.cells.toArray 25) = m0 at *
  refine (H0.out _).mono ?_
  rintro e w1 ⟨rfl, hb1⟩
  have HB1 := Lib.hid hb1
  have HQ1 := Lib.hid (HQ.out.below hb1)
  have h1 := class_any (HC.out.lies.below hb1) cap HC.out.room h HH.out
  rw [HL.out.1] at h1
  have H1 := Lib.hid h1
  clear h1 hb1 H0
  generalize hX : class2 xs h = X at *
  obtain ⟨X1, X2⟩ := X
  have HX := Lib.hid hX
  clear hX
  dsimp only at H1
  go_wp2_with (refine wpList_load_hd rfl (.tmp 5) rfl w.heap.size h rfl HQ1 ?_)
  refine H1.out.mono ?_
  rintro e w2 ⟨rfl, hb2⟩
  have HB2 := Lib.hid (HB1.out.trans (hb2.mono HB1.out.size))
  have HQ2 := Lib.hid (HQ.out.below HB2.out)
  have H3 : Hid (∀ W, Below w2.heap.size w2 W → Calls Try.prog 18 #[.slice (some ⟨W.heap.size, 0, none⟩) 2 2] (W.alloc (.cells #[.slice A n cap, .slice B n2 cap2] 22)) fun e w' => ∃ A cap, e = .returned (.slice A (n + n2) cap) ∧ RusIn w' A (xs ++ ys) ∧ n + n2 ≤ cap ∧ Below W.heap.size W w') := Lib.hid (fun W hW => by
    have := concat_pair ((HC.out.below HB2.out).below hW) ((HD.out.below HB2.out).below hW)
    rw [HL.out.1, HL.out.2] at this
    exact this)
  have HS : Hid (∀ W, Below w2.heap.size w2 W → (fun W => Hid (HdAt W w.heap.size h)) W) := Lib.hid (fun W hW => Lib.hid (HQ2.out.below hW))
  have HLN : Hid ((xs ++ ys).length = n + n2) := Lib.hid (by rw [List.length_append, HL.out.1, HL.out.2])
  clear hb2 HQ1 H1 HB1

  go_upto_region 4 with fail
  refine wp_region_held_drew (S := (fun W => Hid (HdAt W w.heap.size h))) (by kernel_rfl) (HS.out _ (Below.refl _ _).drew) (fun hHeld => ?_)
  obtain ⟨w0, hw0⟩ : ∃ W0, W0 = w2.drew := ⟨_, rfl⟩
  have HB0 : Hid (Below w2.heap.size w2 w0) := Lib.hid (by rw [hw0]; exact (Below.refl _ _).drew)
  rw [← hw0] at hHeld ⊢
  clear hw0
  refine wpAnyH_take (i := 0) (v := ?_) (by simp only [List.getElem?_toArray, List.getElem?_cons_zero] <;> rfl) (by kernel_rfl) (by kernel_rfl) (by kernel_rfl) (by exact fun _ _ _ h => h) (Or.inl ⟨by rfl, ?_⟩) hHeld ?_
  rotate_left
  · intro w hSw; (try dsimp only at hSw); go_simp; (try with_reducible rfl)
  (try simp only [Act.put, List.setIfInBounds_toArray, List.set_cons_zero, List.set_cons_succ])
  refine wpAnyH_take (i := 1) (v := ?_) (by simp only [List.getElem?_toArray, List.getElem?_cons_succ, List.getElem?_cons_zero] <;> rfl) (by kernel_rfl) (by kernel_rfl) (by kernel_rfl) (by exact fun _ _ _ h => h) (Or.inl ⟨by rfl, ?_⟩) hHeld ?_
  rotate_left
  · intro w hSw; (try dsimp only at hSw); go_simp; (try with_reducible rfl)
  (try simp only [Act.put, List.setIfInBounds_toArray, List.set_cons_zero, List.set_cons_succ])
  refine wpAnyH_take (i := 4) (v := ?_) (by simp only [List.getElem?_toArray, List.getElem?_cons_succ, List.getElem?_cons_zero] <;> rfl) (by kernel_rfl) (by kernel_rfl) (by kernel_rfl) (by exact fun _ _ _ h => h) (Or.inl ⟨by rfl, ?_⟩) hHeld ?_
  rotate_left
  · intro V hV; refine exec_load_hd (.tmp 5) ?_ w.heap.size h ?_ hV <;> rfl
  (try simp only [Act.put, List.setIfInBounds_toArray, List.set_cons_zero, List.set_cons_succ])
  refine wpAnyH_ready (rs := [2]) (by kernel_rfl) (by simp) ?_
  refine AllReadyH.cons (by simp only [List.getElem?_toArray, List.getElem?_cons_succ, List.getElem?_cons_zero] <;> rfl) (fun K hK => ?_) AllReadyH.nil
  go_simp
  refine hK.out _ _ ?_ (fun hHeld => ?_)
  · exact HS.out _ (HB0.out.alloc HB0.out.size _)
  clear hK K
  (try simp only [Act.put, List.setIfInBounds_toArray, List.set_cons_zero, List.set_cons_succ])
  refine wpAnyH_ready (rs := [3]) (by kernel_rfl) (by simp) ?_
  refine AllReadyH.cons (by simp only [List.getElem?_toArray, List.getElem?_cons_succ, List.getElem?_cons_zero] <;> rfl) (fun K hK => ?_) AllReadyH.nil
  go_simp
  go_at_call 18
  refine (H3.out _ HB0.out).mono ?_
  rintro e w3 ⟨A3, cap3, rfl, hin, hcap, hb3⟩
  have HB3 := Lib.hid (HB0.out.trans (hb3.mono HB0.out.size))
  have h4 := class_any hin cap3 (by rw [HLN.out]; exact hcap) h HH.out
  rw [HLN.out] at h4
  have H4 := Lib.hid h4
  clear h4 hin hcap hb3
  go_wp2_with fail
  refine hK.out _ _ ?_ (fun hHeld => ?_)
  · exact HS.out _ HB3.out
  clear hK K
  (try simp only [Act.put, List.setIfInBounds_toArray, List.set_cons_zero, List.set_cons_succ])
  generalize hY : class2 (xs ++ ys) h = Y at *
  obtain ⟨Y1, Y2⟩ := Y
  have HY := Lib.hid hY
  clear hY
  dsimp only at H4
  refine wpAnyH_ready (rs := [5]) (by kernel_rfl) (by simp) ?_
  refine AllReadyH.cons (by simp only [List.getElem?_toArray, List.getElem?_cons_succ, List.getElem?_cons_zero] <;> rfl) (fun K hK => ?_) AllReadyH.nil
  go_simp
  go_at_call 9
  refine H4.out.mono ?_
  rintro e w4 ⟨rfl, hb4⟩
  have HB4 := Lib.hid (HB3.out.trans (hb4.mono HB3.out.size))
  clear hb4 H4
  go_wp2_with fail
  refine hK.out _ _ ?_ (fun hHeld => ?_)
  · exact HS.out _ HB4.out
  clear hK K
  (try simp only [Act.put, List.setIfInBounds_toArray, List.set_cons_zero, List.set_cons_succ])
  refine wpAnyH_take (i := 6) (v := ?_) (by simp only [List.getElem?_toArray, List.getElem?_cons_succ, List.getElem?_cons_zero] <;> rfl) (by kernel_rfl) (by kernel_rfl) (by kernel_rfl) (by exact fun _ _ _ h => h) (Or.inl ⟨by rfl, ?_⟩) hHeld ?_
  rotate_left
  · intro w hSw; (try dsimp only at hSw); go_simp; (try with_reducible rfl)
  (try simp only [Act.put, List.setIfInBounds_toArray, List.set_cons_zero, List.set_cons_succ])
  refine wpAnyH_take (i := 7) (v := ?_) (by simp only [List.getElem?_toArray, List.getElem?_cons_succ, List.getElem?_cons_zero] <;> rfl) (by kernel_rfl) (by kernel_rfl) (by kernel_rfl) (by exact fun _ _ _ h => h) (Or.inl ⟨by rfl, ?_⟩) hHeld ?_
  rotate_left
  · intro w hSw; (try dsimp only at hSw); go_simp; (try with_reducible rfl)
  (try simp only [Act.put, List.setIfInBounds_toArray, List.set_cons_zero, List.set_cons_succ])
  refine wpAnyH_take (i := 9) (v := ?_) (by simp only [List.getElem?_toArray, List.getElem?_cons_succ, List.getElem?_cons_zero] <;> rfl) (by kernel_rfl) (by kernel_rfl) (by kernel_rfl) (by exact fun _ _ _ h => h) (Or.inl ⟨by rfl, ?_⟩) hHeld ?_
  rotate_left
  · intro w hSw; (try dsimp only at hSw); go_simp; (try with_reducible rfl)
  (try simp only [Act.put, List.setIfInBounds_toArray, List.set_cons_zero, List.set_cons_succ])
  refine wpAnyH_take (i := 8) (v := ?_) (by simp only [List.getElem?_toArray, List.getElem?_cons_succ, List.getElem?_cons_zero] <;> rfl) (by kernel_rfl) (by kernel_rfl) (by kernel_rfl) (by exact fun _ _ _ h => h) (Or.inl ⟨by rfl, ?_⟩) hHeld ?_
  rotate_left
  · intro w hSw; (try dsimp only at hSw); go_simp; (try with_reducible rfl)
  (try simp only [Act.put, List.setIfInBounds_toArray, List.set_cons_zero, List.set_cons_succ])
  refine wpAnyH_take (i := 10) (v := ?_) (by simp only [List.getElem?_toArray, List.getElem?_cons_succ, List.getElem?_cons_zero] <;> rfl) (by kernel_rfl) (by kernel_rfl) (by kernel_rfl) (by exact fun _ _ _ h => h) (Or.inl ⟨by rfl, ?_⟩) hHeld ?_
  rotate_left
  · intro w hSw; (try dsimp only at hSw); go_simp; (try with_reducible rfl)
  (try simp only [Act.put, List.setIfInBounds_toArray, List.set_cons_zero, List.set_cons_succ])
  refine wpAnyH_done (by kernel_rfl) ?_ _
  have HB5 := Lib.hid (HB2.out.trans (HB4.out.mono HB2.out.size))
  clear HB4 HB3 HB0 HS hHeld

  by_cases hx : X2 = 0
  case neg =>
    have hx' : (X2 != 0) = true := by simpa using hx
    have HE := Lib.hid (HBz.out.trans (HB5.out.mono HBz.out.size))
    clear H3 hx
    go_wp2_with fail
    go_ret
    exact ⟨rfl, HE.out⟩
  subst hx
  have h6 := concat_pair (HC.out.below HB5.out) (HD.out.below HB5.out)
  rw [HL.out.1, HL.out.2] at h6
  have H6 := Lib.hid h6
  clear h6 H3
  go_wp2_with fail
  refine H6.out.mono ?_
  rintro e w5 ⟨A5, cap5, rfl, hin, hcap, hb5⟩
  have HB6 := Lib.hid (HB5.out.trans (hb5.mono HB5.out.size))
  have h7 := wrong_any hin cap5 (by rw [HLN.out]; exact hcap)
  rw [HLN.out] at h7
  have hwr : wrongR (xs ++ ys) = if wrongB (xs ++ ys) = true then 2 else 0 := rfl
  have H7 := Lib.hid h7
  clear h7 hin hcap hb5 H6
  cases hw : wrongB (xs ++ ys) with
  | true =>
    rw [hw] at hwr
    rw [show wrongR (xs ++ ys) = 2 from hwr] at H7
    have hy := HY.out
    rw [class_bad hw] at hy
    injection hy with hy1 hy2
    subst hy1 hy2
    clear hwr hw
    go_wp2_with fail
    refine H7.out.mono ?_
    rintro e w6 ⟨rfl, hb6⟩
    have HE := Lib.hid (HBz.out.trans ((HB6.out.trans (hb6.mono HB6.out.size)).mono HBz.out.size))
    clear hb6
    go_wp2_with fail
    go_ret
    exact ⟨rfl, HE.out⟩
  | false =>
    rw [hw] at hwr
    rw [show wrongR (xs ++ ys) = 0 from hwr] at H7
    have hy := HY.out
    rw [first_class (by rw [HX.out]) hw, HX.out] at hy
    injection hy with hy1 hy2
    subst hy1 hy2
    have hf := HX.out
    rw [class_good (wrong_append hw)] at hf
    have HF := Lib.hid hf
    clear hwr hw hf
    go_wp2_with fail
    refine H7.out.mono ?_
    rintro e w6 ⟨rfl, hb6⟩
    have HB7 := Lib.hid (HB6.out.trans (hb6.mono HB6.out.size))
    have h8 := indexFunc_first (f := fits h) ⟨fun W r hW hr => first1_any ((HQ.out.below HB7.out).below hW) HH.out r (HC.out.lies.ok r hr)⟩ (HC.out.lies.below HB7.out) cap HC.out.room
    rw [HL.out.1] at h8
    have H8 := Lib.hid h8
    clear h8 hb6 H7 HB6
    go_wp2_with fail
    refine H8.out.mono ?_
    rintro e w7 ⟨r, rfl, hi, hb7⟩
    have HB8 := Lib.hid (HB7.out.trans (hb7.mono HB7.out.size))
    rcases found_index hi with ⟨_, hf⟩ | ⟨i, x, rfl, hil, hxx, hf⟩
    · have := HF.out.symm.trans hf
      injection this with _ h2
      exact absurd h2 (by decide)
    · have hcl := HF.out.symm.trans hf
      injection hcl with hcl _
      obtain ⟨b, off, x', rfl, hx', hat, _, hbl⟩ := (HC.out.lies.below HB8.out).next hil
      rw [hxx] at hx'
      injection hx' with hx'
      subst hx'
      rw [HL.out.1] at hil
      have hc : w7.cell? ⟨b, off + i * 14 + 13, none⟩ = some (.int .i64 x.cl) := hat 13 (by decide)
      rw [← hcl] at hc
      have i1 : (i : Int) < (n : Int) := by omega
      have HE := Lib.hid (HBz.out.trans (HB8.out.mono HBz.out.size))
      clear hi hb7 hf hxx hat hbl HF H8 hcl
      go_wp2_with fail
      go_ret
      exact ⟨rfl, HE.out⟩
end Go.Proofs.Ytandfbepenjbhaa
