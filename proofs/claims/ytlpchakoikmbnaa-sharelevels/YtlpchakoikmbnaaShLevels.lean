/- ShareLevels: package share answers what the document says. -/
import Derived.Test.YtlpchakoikmbnaaShE1
import Derived.Test.YtlpchakoikmbnaaShE2
namespace Go.Proofs.Ytlpchakoikmbnaa
open Go.RowKit Go.Maps

/-- Fractions of one's own. -/
def OwnG (B : Nat) (w : World) (v : Value) (gs : List (Int × Int)) : Prop := w.ownsRow B 24 2 v gs.length (frs gs)
theorem OwnG.nil (B : Nat) (w : World) : OwnG B w (.slice none 0 0) [] := ⟨rfl, .inl ⟨rfl, rfl⟩⟩
theorem OwnG.below {B : Nat} {w w' : World} {v : Value} {gs : List (Int × Int)} (h : OwnG B w v gs) (hb : Below w.heap.size w w') : OwnG B w' v gs := by
  refine ⟨h.1, ?_⟩
  rcases h.2 with hn | ⟨g, cap, cur, rfl, hB, hgg, rest⟩
  · exact .inl hn
  · exact .inr ⟨g, cap, cur, rfl, hB, (hb.block g (World.ownsRow.lt h g rfl).2).trans hgg, rest⟩
theorem OwnG.form {B : Nat} {w : World} {v : Value} {gs : List (Int × Int)} (h : OwnG B w v gs) : ∃ A cap, v = .slice A gs.length cap ∧ FrsIn w A gs := by
  rcases h.2 with ⟨rfl, h0⟩ | ⟨g, cap, cur, rfl, hB, hg, hn, _, hs, ht⟩
  · exact ⟨none, 0, by rw [h0], ⟨fun h => by omega⟩⟩
  · refine ⟨_, cap, rfl, ⟨fun _ => ⟨g, 0, rfl, (World.ownsRow.lt h g rfl).2, fun j p hp => ?_⟩⟩⟩
    have hj : j < gs.length := (List.getElem?_eq_some_iff.1 hp).1
    obtain ⟨h1, h2⟩ := frs_at hp
    rw [← ht, List.getElem?_take_of_lt (by omega), Array.getElem?_toList] at h1 h2
    rw [Nat.zero_add, cell_of_row w g _ cur _ _ hg, cell_of_row w g _ cur _ _ hg]
    exact ⟨h1, h2⟩
theorem under_frs : Try.prog.underlying 28 = some (.slice 24) := by kernel_rfl
theorem frs_one (gs : List (Int × Int)) : ∀ u ∈ frs gs, u.oneCell' = true := by
  intro u hu
  unfold frs at hu
  obtain ⟨p, _, hu⟩ := List.mem_flatMap.1 hu
  simp only [List.mem_cons, List.not_mem_nil, or_false] at hu
  rcases hu with rfl | rfl <;> rfl
theorem frs_append {B : Nat} {w : World} {v : Value} {us : List (Int × Int)} (h : OwnG B w v us) (a b : Int) (hB : B ≤ w.heap.size) (hn : us.length ≤ 1000) :
    ∃ v' W, (∀ ty, (Builtin.append_ #[28, 28] ty #[v, .slice (some ⟨w.heap.size, 0, none⟩) 1 1]).run Try.prog (w.alloc (.cells #[.int .i64 a, .int .i64 b] 24)) = .ok v' W) ∧ OwnG B W v' (us ++ [(a, b)]) ∧ Below B w W := by
  obtain ⟨i0, hi, hz0, hz1, hz2⟩ := info_three info_frs
  have bo : Below w.heap.size w (w.alloc (.cells #[.int .i64 a, .int .i64 b] 24)) := (Below.refl _ _).alloc (Nat.le_refl _) _
  have hsz : (w.alloc (.cells #[.int .i64 a, .int .i64 b] 24)).heap.size = w.heap.size + 1 := by simp
  have key := fun ty => run_append_own_at (P := Try.prog) (w.alloc (.cells #[.int .i64 a, .int .i64 b] 24)) B 28 ty 24 i0 _ 2 16 under_frs hi hz0 hz1 hz2 rfl (by decide) v us.length (frs us) (h.below bo)
    ⟨w.heap.size, 0, none⟩ 1 1 (frs [(a, b)]) rfl (fun j x hx => by
      have hadd : (⟨w.heap.size, 0, none⟩ : Addr).add j = ⟨w.heap.size, j, none⟩ := by unfold Addr.add; split <;> simp_all
      rw [hadd, cell_of_row _ _ j _ _ _ (heap_alloc_new w _)]
      rcases (by have := (List.getElem?_eq_some_iff.1 hx).1; simp [frs] at this; omega : j = 0 ∨ j = 1) with rfl | rfl <;> (simp [frs] at hx; subst hx; rfl)) (frs_one _) (by simp only [maxLen]; omega) (by omega) (by omega)
  obtain ⟨v', W, hr, h2, h3, _, _⟩ := key 0
  refine ⟨v', W, fun ty => hr, ?_, ⟨h3.os.trans bo.os, h3.tape.trans bo.tape, h3.output.trans bo.output, by have := h3.size; omega, fun k hk => ?_⟩⟩
  · unfold OwnG frs at *
    rw [List.flatMap_append, List.length_append]
    exact h2
  · exact (h3.block k (by omega) (fun e => by
      have := (World.ownsRow.lt (h.below bo) k e.symm).1
      omega)).trans (bo.block k (by omega))
theorem wpList_append_g {P : Program} {ops : Array Oper} {rest : List Oper} {o : Oper} {a : Act} {w : World} {Q : Exit → Act → World → Prop} (hgd : o.guard = none) (s x : Operand) (t u : TypeId)
    (ho : o.op = .call { callee := .builtin .append, args := #[s, x], argTypes := #[t, u] })
    {vs vx v : Value} {w' : World} (hs : a.eval s = vs) (hx : a.eval x = vx) (hrun : (Builtin.append_ #[t, u] o.type #[vs, vx]).run P w = .ok v w') (h : wpList P ops Q rest (a.put o.dst v) w') : wpList P ops Q (o :: rest) a w :=
  wpList_append_eq hgd s x t u ho hs hx hrun h
theorem step_append_eq {P : Program} {ops : Array Oper} {o : Oper} {a : Act} {w : World} {K : Act → World → Prop} {Q : Exit → Act → World → Prop} {E : Prop}
    (hg : o.guard = none) (s x : Operand) (t : TypeId) (hop : o.op = Op.call { callee := Callee.builtin Builtin.append, args := #[s, x], argTypes := #[t, t] })
    {vs vx v : Value} {w' : World} (hs : a.eval s = vs) (hx : a.eval x = vx) (hrun : (Builtin.append_ #[t, t] o.type #[vs, vx]).run P w = .ok v w') (hK : K (a.put o.dst v) w') :
    if Region.wanted o (yielded ops a.tmps) = true then Oper.wp P o a w K Q else E := by
  have hw : Region.wanted o (yielded ops a.tmps) = true := by simp [Region.wanted, hg]
  rw [if_pos hw]
  unfold Oper.wp execOp
  simp only [hop, resolve, invoke, builtin, Sem.run_bind, Sem.run_pure, Result.andThen_ok, List.map_toArray, List.map_cons, List.map_nil, hs, hx, hrun]
  exact hK

set_option maxRecDepth 100000 in
set_option maxHeartbeats 32000000 in
theorem shareLevels_law {w : World} {P Q : Option Addr} {xs ys : List Int} {n m : Nat} (hx : IntsIn w P xs) (hn : xs.length = n) (hy : IntsIn w Q ys) (hm : ys.length = m) (cx cy : Nat) (A : Int) :
    Calls Try.prog 3 #[.int .i64 A, .slice P n cx, .slice Q m cy] w fun e w' => e = .returned (.bool true) ∧ Below w.heap.size w w' := by
  obtain ⟨gs, E, N, D, hG⟩ := gv_any A xs ys
  have HL := Lib.hid (fun W (hW : Below w.heap.size w W) => hG.level (hx.below hW) (hy.below hW) cx cy)
  have HG := Lib.hid (fun W (hW : Below w.heap.size w W) => hG.gets (hx.below hW) (hy.below hW) cx cy)
  have HW := Lib.hid (fun W (hW : Below w.heap.size w W) => wrong_any (hx.below hW) (hy.below hW) cx cy A)
  have HE := Lib.hid (fun W (hW : Below w.heap.size w W) => lwrong_any (hx.below hW) (hy.below hW) cx cy A)
  unfold Levelled at HL
  unfold Got at HG
  rw [hG.err] at HW HE
  rw [hn, hm] at HL HG HW HE
  have ee : (E != E) = false := by simp
  obtain ⟨q, hq⟩ : ∃ q, gs.length = q := ⟨_, rfl⟩
  rw [hq] at HG
  have HPX := Lib.hid (fun W (hW : Below w.heap.size w W) => hx.below hW)
  have HPY := Lib.hid (fun W (hW : Below w.heap.size w W) => hy.below hW)
  have HN := Lib.hid (And.intro hn hm)
  have HWAY := Lib.hid hG.way
  have HLL := Lib.hid (fun (hE : E = 0) W (hW : Below w.heap.size w W) => by
    rcases hG.way with ⟨h12, _⟩ | ⟨_, hR, hLv, _⟩
    · exfalso; omega
    · exact llevel_any (hx.below hW) (hy.below hW) cx cy hR hLv)
  unfold LL at HLL
  rw [hn, hm] at HLL
  have HQL := Lib.hid hq
  clear hG hx hy hn hm hq
  go_enter Try.func3, Try.ntmps3
  go_wp2_with fail
  refine (HL.out _ (Below.refl _ _)).mono ?_
  rintro e w1 ⟨rfl, hb⟩
  have hF := laidF_at w1 N D
  have H1 := Lib.hid (And.intro hF.1 (hb.trans (hF.2.1.mono hb.size)))
  clear hb hF HL
  go_upto_region 2 with fail
  change Code.wp _ _ _ _ (laidF w1 N D)
  generalize laidF w1 N D = w2 at *
  obtain ⟨lb, hlb⟩ : ∃ lb, w1.heap.size = lb := ⟨_, rfl⟩
  rw [hlb] at H1 ⊢
  clear hlb
  go_wp2_with fail
  refine (HG.out _ H1.out.2).mono ?_
  rintro e w3 ⟨R, c, rfl, hR, hb, _, _⟩
  have H3 := Lib.hid (And.intro (H1.out.1.below hb) (And.intro (H1.out.2.trans (hb.mono H1.out.2.size)) hR))
  clear hR hb HG H1
  go_wp2_with fail
  refine (HE.out _ H3.out.2.1).mono ?_
  rintro e w4 ⟨rfl, rfl⟩
  clear HE
  go_wp2_with fail
  refine (HW.out _ H3.out.2.1).mono ?_
  rintro e w4 ⟨rfl, rfl⟩
  clear HW
  rcases HWAY.out with ⟨h12, hg0, rfl, rfl⟩ | ⟨rfl, hRt, hLv, hgs⟩
  · have hE : (E != 0) = true := by rcases h12 with rfl | rfl <;> rfl
    obtain rfl : q = 0 := by rw [← HQL.out, hg0]; rfl
    obtain ⟨c0, c1⟩ := H3.out.1.cells
    have he := fun w => fr_eql w 0 0 0 0
    rw [fr_same rfl] at he
    have HZ := Lib.hid H3.out.2.1
    clear h12 hg0 H3 HWAY HLL HPX HPY HN HQL
    go_wp2_with fail
    go_ret
    exact ⟨rfl, HZ.out⟩
  · have HRT := Lib.hid hRt
    have hnm : m = n := by rw [← HN.out.2, hRt.len, HN.out.1]
    have hqn : q = n := by rw [← HQL.out, hgs, gets_length, HN.out.1]
    have h16 : n ≤ 16 := by rw [← HN.out.1]; exact hRt.few
    have hbd := level_bounds hRt hLv
    rw [HN.out.1] at hgs
    have HGS := Lib.hid hgs
    subst hnm hqn
    have HLX := Lib.hid (HLL.out rfl _ H3.out.2.1)
    clear hRt hLv hgs HWAY HLL
    go_wp2_with fail
    refine HLX.out.mono ?_
    rintro e w4 ⟨sb, rfl, hrow, hb, _⟩
    have hF := laidF_at w4 N D
    have H5 : Hid (FrAt (laidF w4 N D) lb N D ∧ Below w.heap.size w (laidF w4 N D) ∧ FrsIn (laidF w4 N D) R gs ∧ (∃ f, (laidF w4 N D).rowIs sb 4 q f ∧ ∀ j, j < q → f j = .bool (isS (fn xs) (fn ys) N D j)) ∧ FrAt (laidF w4 N D) w4.heap.size N D) := Lib.hid (by
      have hb2 := H3.out.2.1.trans (hb.mono H3.out.2.1.size)
      obtain ⟨f, hr, hf⟩ := hrow
      exact ⟨(H3.out.1.below hb).below hF.2.1, hb2.trans (hF.2.1.mono hb2.size), (H3.out.2.2.below hb).below hF.2.1, ⟨f, hr.of_block (hF.2.1.block _ hr.lt), hf⟩, hF.1⟩)
    clear hrow hb hF H3 HLX
    go_upto_region 9 with fail
    change Code.wp _ _ _ _ (laidF w4 N D)
    generalize laidF w4 N D = w5 at *
    generalize w4.heap.size = mb at *
    go_wp2_with fail
    go_loopg [14, 69] q (fun z v c wr => ∃ (i : Nat) (vv : Value), vv = v ∧ c = .int .i64 (i : Int) ∧ i + z = q ∧ Hid (Below w5.heap.size w5 wr ∧ OwnG w5.heap.size wr vv ((gets (fn xs) (fn ys) N D q).take i)))
    case atStart => exact ⟨0, _, rfl, rfl, by omega, Lib.hid ⟨Below.refl _ _, OwnG.nil _ _⟩⟩
    case round =>
      obtain ⟨i, v, rfl, rfl, hik, HI⟩ := hrel
      cases gk with
      | zero =>
        obtain rfl : i = q := by omega
        have ho := HI.out.2
        rw [List.take_of_length_le (by rw [gets_length]; exact Nat.le_refl _), ← HGS.out] at ho
        obtain ⟨A', cap', rfl, hf⟩ := ho.form
        obtain ⟨c0, c1⟩ := (H5.out.1.below HI.out.1).cells
        obtain ⟨d0, d1⟩ := (H5.out.2.2.2.2.below HI.out.1).cells
        have he := fun w => fr_eql w N D N D
        rw [fr_same rfl] at he
        have HEQ := equal_frs (H5.out.2.2.1.below HI.out.1) hf c cap' (by rw [HQL.out]; omega)
        rw [decide_eq_true (rfl : gs = gs), HQL.out] at HEQ
        have HEQ := Lib.hid HEQ
        have HZ := Lib.hid (H5.out.2.1.trans (HI.out.1.mono H5.out.2.1.size))
        rw [HQL.out]
        clear ho hf HI H5 HPX HPY HN HRT HGS HQL hbd
        go_wp2_with fail
        refine HEQ.out.mono ?_
        rintro e w6 ⟨rfl, hb⟩
        have HY := Lib.hid (HZ.out.trans (hb.mono HZ.out.size))
        clear hb HEQ HZ
        go_wp2_with fail
        go_ret
        exact ⟨rfl, HY.out⟩
      | succ z =>
        have hi : i < q := by omega
        have i1 : (i : Int) < (q : Int) := by omega
        have HIK := Lib.hid hik
        have hW := H5.out.2.1.trans (HI.out.1.mono H5.out.2.1.size)
        have hcw : wr.cell? ⟨sb, i, none⟩ = some (.bool (isS (fn xs) (fn ys) N D i)) := by
          obtain ⟨f, hr, hf⟩ := H5.out.2.2.2.1
          have hr2 := hr.of_block (HI.out.1.block _ hr.lt)
          rw [hr2.cell hi, hf i hi]
        have hga := gets_at (w := fn xs) (v := fn ys) (N := N) (D := D) hi
        have hgi : gN (fn xs) (fn ys) N D i = (if isS (fn xs) (fn ys) N D i = true then fn ys i * N else fn xs i) := rfl
        have hgd : gD (fn xs) (fn ys) N D i = (if isS (fn xs) (fn ys) N D i = true then D else 1) := rfl
        cases hs : isS (fn xs) (fn ys) N D i with
        | false =>
          rw [hs] at hcw hgi hgd
          rw [if_neg (by decide)] at hgi hgd
          rw [hgi, hgd] at hga
          obtain ⟨gx, ox, rfl, a1, -⟩ := (HPX.out _ hW).two (i := i) (j := i) (by rw [HN.out.1]; exact hi) (by rw [HN.out.1]; exact hi)
          obtain ⟨v', W', hrun, hnew, hbw⟩ := frs_append HI.out.2 (fn xs i) 1 HI.out.1.size (by rw [List.length_take, gets_length]; omega)
          rw [← take_snocP hga] at hnew
          have HRUN := Lib.hid hrun
          have HQ := Lib.hid (And.intro (HI.out.1.trans hbw) hnew)
          generalize fn xs i = x at *
          clear hW hs hga hgi hgd hrun hnew hbw HI hik
          go_wp2_with (at_builtin; refine wpList_append_eq rfl (.tmp 89) (.tmp 95) 28 28 rfl rfl rfl (HRUN.out _) ?_)
          go_roundg z
          case measure => omega
          case rel => exact ⟨i + 1, _, rfl, by go_num, by have := HIK.out; omega, HQ⟩
        | true =>
          rw [hs] at hcw hgi hgd
          rw [if_pos rfl] at hgi hgd
          rw [hgi, hgd] at hga
          obtain ⟨gy, oy, rfl, b1, -⟩ := (HPY.out _ hW).two (i := i) (j := i) (by rw [HN.out.2]; exact hi) (by rw [HN.out.2]; exact hi)
          have hyb := HRT.out.weight0 i
          have HF : Hid (∀ W, Below w5.heap.size w5 W → W.cell? ⟨gy, oy + i, none⟩ = some (.int .i64 (fn ys i)) ∧ W.cell? ⟨mb, 0, none⟩ = some (.int .i64 N) ∧ W.cell? ⟨mb, 1, none⟩ = some (.int .i64 D)) := Lib.hid (fun W hW' => by
            have hW2 := H5.out.2.1.trans (hW'.mono H5.out.2.1.size)
            obtain ⟨b, off, e, k1, _⟩ := (HPY.out _ hW2).two (i := i) (j := i) (by rw [HN.out.2]; exact hi) (by rw [HN.out.2]; exact hi)
            injection e with e
            simp only [Addr.mk.injEq, and_true] at e
            obtain ⟨rfl, rfl⟩ := e
            exact ⟨k1, (H5.out.2.2.2.2.below hW').cells⟩)
          generalize fn ys i = c0 at *
          obtain ⟨P1, q1, hP1⟩ : ∃ P1, IntKind.i64.wrap (c0 * N) = P1 ∧ P1 = c0 * N := ⟨_, rfl, mul_wrap (by omega) (by omega)⟩
          rw [← hP1] at hga
          have HO := Lib.hid (And.intro HI.out.1 HI.out.2)
          have HGA := Lib.hid hga
          have HS : Hid (∀ W, Below wr.heap.size wr W → (fun W : World => W.cell? ⟨gy, oy + i, none⟩ = some (.int .i64 c0) ∧ W.cell? ⟨mb, 0, none⟩ = some (.int .i64 N) ∧ W.cell? ⟨mb, 1, none⟩ = some (.int .i64 D)) W) := Lib.hid (fun W h => HF.out _ (HO.out.1.trans (h.mono HO.out.1.size)))
          clear hW hs hga hgi hgd HI hik b1 hyb hP1
          go_upto_region 14 with fail
          clear hcw
          refine wp_region_held_drew (S := (fun W : World => W.cell? ⟨gy, oy + i, none⟩ = some (.int .i64 c0) ∧ W.cell? ⟨mb, 0, none⟩ = some (.int .i64 N) ∧ W.cell? ⟨mb, 1, none⟩ = some (.int .i64 D))) (by kernel_rfl) (HS.out _ (Below.refl _ _).drew) (fun hHeld => ?_)
          obtain ⟨w0, hw0⟩ : ∃ W0, W0 = wr.drew := ⟨_, rfl⟩
          have HB0 : Hid (Below wr.heap.size wr w0) := Lib.hid (by rw [hw0]; exact (Below.refl _ _).drew)
          rw [← hw0] at hHeld ⊢
          clear hw0
          refine wpAnyH_take (i := 0) (v := ?_) (by simp only [List.getElem?_toArray, List.getElem?_cons_zero] <;> rfl) (by kernel_rfl) (by kernel_rfl) (by kernel_rfl) (by exact fun _ _ _ h => h) (Or.inl ⟨by rfl, ?_⟩) hHeld ?_
          rotate_left
          · intro w hSw; (try dsimp only at hSw); go_simp; (try with_reducible rfl)
          (try simp only [Act.put, List.setIfInBounds_toArray, List.set_cons_zero, List.set_cons_succ])
          refine wpAnyH_take (i := 1) (v := ?_) (by simp only [List.getElem?_toArray, List.getElem?_cons_succ, List.getElem?_cons_zero] <;> rfl) (by kernel_rfl) (by kernel_rfl) (by kernel_rfl) (by exact fun _ _ _ h => h) (Or.inl ⟨by rfl, ?_⟩) hHeld ?_
          rotate_left
          · intro w hSw; (try dsimp only at hSw); go_simp; (try with_reducible rfl)
          (try simp only [Act.put, List.setIfInBounds_toArray, List.set_cons_zero, List.set_cons_succ])
          refine wpAnyH_take (i := 2) (v := ?_) (by simp only [List.getElem?_toArray, List.getElem?_cons_succ, List.getElem?_cons_zero] <;> rfl) (by kernel_rfl) (by kernel_rfl) (by kernel_rfl) (by exact fun _ _ _ h => h) (Or.inl ⟨by rfl, ?_⟩) hHeld ?_
          rotate_left
          · intro w hSw; (try dsimp only at hSw); go_simp; (try with_reducible rfl)
          (try simp only [Act.put, List.setIfInBounds_toArray, List.set_cons_zero, List.set_cons_succ])
          refine wpAnyH_take (i := 3) (v := ?_) (by simp only [List.getElem?_toArray, List.getElem?_cons_succ, List.getElem?_cons_zero] <;> rfl) (by kernel_rfl) (by kernel_rfl) (by kernel_rfl) (by exact fun _ _ _ h => h) (Or.inl ⟨by rfl, ?_⟩) hHeld ?_
          rotate_left
          · intro w hSw; (try dsimp only at hSw); go_simp; (try with_reducible rfl)
          (try simp only [Act.put, List.setIfInBounds_toArray, List.set_cons_zero, List.set_cons_succ])
          refine wpAnyH_take (i := 4) (v := ?_) (by simp only [List.getElem?_toArray, List.getElem?_cons_succ, List.getElem?_cons_zero] <;> rfl) (by kernel_rfl) (by kernel_rfl) (by kernel_rfl) (by exact fun _ _ _ h => h) (Or.inl ⟨by rfl, ?_⟩) hHeld ?_
          rotate_left
          · intro w hSw; (try dsimp only at hSw); go_simp; (try with_reducible rfl)
          (try simp only [Act.put, List.setIfInBounds_toArray, List.set_cons_zero, List.set_cons_succ])
          refine wpAnyH_take (i := 5) (v := ?_) (by simp only [List.getElem?_toArray, List.getElem?_cons_succ, List.getElem?_cons_zero] <;> rfl) (by kernel_rfl) (by kernel_rfl) (by kernel_rfl) (by exact fun _ _ _ h => h) (Or.inl ⟨by rfl, ?_⟩) hHeld ?_
          rotate_left
          · intro w hSw; (try dsimp only at hSw); go_simp; (try with_reducible rfl)
          (try simp only [Act.put, List.setIfInBounds_toArray, List.set_cons_zero, List.set_cons_succ])
          refine wpAnyH_take (i := 6) (v := ?_) (by simp only [List.getElem?_toArray, List.getElem?_cons_succ, List.getElem?_cons_zero] <;> rfl) (by kernel_rfl) (by kernel_rfl) (by kernel_rfl) (by exact fun _ _ _ h => h) (Or.inl ⟨by rfl, ?_⟩) hHeld ?_
          rotate_left
          · intro w hSw; (try dsimp only at hSw); go_simp; (try with_reducible rfl)
          (try simp only [Act.put, List.setIfInBounds_toArray, List.set_cons_zero, List.set_cons_succ])
          refine wpAnyH_take (i := 7) (v := ?_) (by simp only [List.getElem?_toArray, List.getElem?_cons_succ, List.getElem?_cons_zero] <;> rfl) (by kernel_rfl) (by kernel_rfl) (by kernel_rfl) (by exact fun _ _ _ h => h) (Or.inl ⟨by rfl, ?_⟩) hHeld ?_
          rotate_left
          · intro w hSw; (try dsimp only at hSw); go_simp; (try with_reducible rfl)
          (try simp only [Act.put, List.setIfInBounds_toArray, List.set_cons_zero, List.set_cons_succ])
          refine wpAnyH_take (i := 8) (v := ?_) (by simp only [List.getElem?_toArray, List.getElem?_cons_succ, List.getElem?_cons_zero] <;> rfl) (by kernel_rfl) (by kernel_rfl) (by kernel_rfl) (by exact fun _ _ _ h => h) (Or.inl ⟨by rfl, ?_⟩) hHeld ?_
          rotate_left
          · intro w hSw; (try dsimp only at hSw); go_simp; (try with_reducible rfl)
          (try simp only [Act.put, List.setIfInBounds_toArray, List.set_cons_zero, List.set_cons_succ])
          refine wpAnyH_take (i := 9) (v := ?_) (by simp only [List.getElem?_toArray, List.getElem?_cons_succ, List.getElem?_cons_zero] <;> rfl) (by kernel_rfl) (by kernel_rfl) (by kernel_rfl) (by exact fun _ _ _ h => h) (Or.inl ⟨by rfl, ?_⟩) hHeld ?_
          rotate_left
          · intro w hSw; (try dsimp only at hSw); go_simp; (try with_reducible rfl)
          (try simp only [Act.put, List.setIfInBounds_toArray, List.set_cons_zero, List.set_cons_succ])
          refine wpAnyH_take (i := 10) (v := ?_) (by simp only [List.getElem?_toArray, List.getElem?_cons_succ, List.getElem?_cons_zero] <;> rfl) (by kernel_rfl) (by kernel_rfl) (by kernel_rfl) (by exact fun _ _ _ h => h) (Or.inl ⟨by rfl, ?_⟩) hHeld ?_
          rotate_left
          · intro w hSw; (try dsimp only at hSw); go_simp; (try with_reducible rfl)
          (try simp only [Act.put, List.setIfInBounds_toArray, List.set_cons_zero, List.set_cons_succ])
          have hown := HO.out.2.below HB0.out
          obtain ⟨v', W', hrun, hnew, hbw⟩ := frs_append hown P1 D (Nat.le_trans HO.out.1.size HB0.out.size) (by rw [List.length_take, gets_length]; omega)
          have HRUN := Lib.hid hrun
          have HBW : Hid (Below w5.heap.size w5 W') := Lib.hid ((HO.out.1.trans (HB0.out.mono HO.out.1.size)).trans hbw)
          have HNEW := Lib.hid hnew
          clear hown hrun hnew hbw
          refine wpAnyH_ready (rs := [11]) (by kernel_rfl) (by simp) ?_
          refine AllReadyH.cons (by simp only [List.getElem?_toArray, List.getElem?_cons_succ, List.getElem?_cons_zero] <;> rfl) (fun K hK => ?_) AllReadyH.nil
          go_simp
          refine hK.out _ _ ?_ (fun hHeld => ?_)
          · exact HF.out _ ((HO.out.1.trans (HB0.out.mono HO.out.1.size)).alloc (Nat.le_trans HO.out.1.size HB0.out.size) _)
          clear hK K
          (try simp only [Act.put, List.setIfInBounds_toArray, List.set_cons_zero, List.set_cons_succ])
          refine wpAnyH_ready (rs := [12]) (by kernel_rfl) (by simp) ?_
          refine AllReadyH.cons (by simp only [List.getElem?_toArray, List.getElem?_cons_succ, List.getElem?_cons_zero] <;> rfl) (fun K hK => ?_) AllReadyH.nil
          refine step_append_eq rfl (.tmp 76) (.tmp 87) 28 rfl (by rfl) (by rfl) (HRUN.out _) ?_
          refine hK.out _ _ ?_ (fun hHeld => ?_)
          · exact HF.out _ HBW.out
          clear hK K
          (try simp only [Act.put, List.setIfInBounds_toArray, List.set_cons_zero, List.set_cons_succ])
          refine wpAnyH_take (i := 13) (v := ?_) (by simp only [List.getElem?_toArray, List.getElem?_cons_succ, List.getElem?_cons_zero] <;> rfl) (by kernel_rfl) (by kernel_rfl) (by kernel_rfl) (by exact fun _ _ _ h => h) (Or.inl ⟨by rfl, ?_⟩) hHeld ?_
          rotate_left
          · intro w hSw; (try dsimp only at hSw); go_simp; (try with_reducible rfl)
          (try simp only [Act.put, List.setIfInBounds_toArray, List.set_cons_zero, List.set_cons_succ])
          refine wpAnyH_done (by kernel_rfl) ?_ _
          have HQ := Lib.hid (And.intro HBW.out HNEW.out)
          rw [← take_snocP HGA.out] at HQ
          clear HBW HNEW HO HF HS HGA hHeld HB0 HRUN
          go_wp2_with fail
          go_roundg z
          case measure => omega
          case rel => exact ⟨i + 1, _, rfl, by go_num, by have := HIK.out; omega, HQ⟩
end Go.Proofs.Ytlpchakoikmbnaa
