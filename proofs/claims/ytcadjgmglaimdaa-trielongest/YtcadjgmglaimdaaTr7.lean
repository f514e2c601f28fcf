/- The last held node on the way along an address. -/
import Derived.Test.YtcadjgmglaimdaaTr6
namespace Go.Proofs.Ytcadjgmglaimdaa
open Go.RowKit Go.Maps

theorem info_node1 : (Try.prog.info? 62).map (·.size) = some 4 := by kernel_rfl
def NodeAt (w : World) (z : Nat) (a : Nd) : Prop := w.heap[z]? = some (.cells a.cells.toArray 62 (0, 0))
theorem NodeAt.lt {w : World} {z : Nat} {a : Nd} (h : NodeAt w z a) : z < w.heap.size := (Array.getElem?_eq_some_iff.1 h).1
theorem NodeAt.below {B : Nat} {w w' : World} {z : Nat} {a : Nd} (h : NodeAt w z a) (hb : Below B w w') (hl : z < B) : NodeAt w' z a := (hb.block z hl).trans h
theorem NodeAt.stored {w : World} {z : Nat} {a : Nd} (h : NodeAt w z a) (b : Nd) : NodeAt (w.setRow z b.cells.toArray) z b := setRow_heap w z _ _ _ _ h
theorem nodeAt_new (w : World) (a : Nd) : NodeAt (w.alloc (.cells a.cells.toArray 62)) w.heap.size a := heap_alloc_new w _
theorem one_node (a : Nd) : (a.cells.toArray.all fun x => x.oneCell') = true := by simp [Nd.cells, Value.oneCell']
theorem below_setRow {B : Nat} {a w : World} (h : Below B a w) {g : Nat} (hg : B ≤ g) (cs : Array Value) : Below B a (w.setRow g cs) :=
  ⟨h.os, h.tape, h.output, by simpa using h.size, fun k hk => (setRow_other w g k cs (by omega)).trans (h.block k hk)⟩
theorem wpList_store_node {ops : Array Oper} {rest : List Oper} {o : Oper} {a : Act} {w : World} {Q : Exit → Act → World → Prop} (hgd : o.guard = none) (x y : Operand) (ho : o.op = .store 62 x y)
    (g : Nat) (h h0 : Nd) (hx : a.eval x = .pointer (some ⟨g, 0, none⟩)) (hy : a.eval y = .agg h.cells.toArray) (hg : NodeAt w g h0)
    (k : wpList Try.prog ops Q rest (a.put o.dst undef) (w.setRow g h.cells.toArray)) : wpList Try.prog ops Q (o :: rest) a w :=
  wpList_store_row hgd 62 x y ho g h.cells.toArray hx hy 62 h0.cells.toArray hg info_node1 rfl (one_node h) k
theorem wp_store_node {o : Oper} {a : Act} {w : World} {K : Act → World → Prop} {Q : Exit → Act → World → Prop} (x y : Operand) (ho : o.op = .store 62 x y)
    (g : Nat) (h h0 : Nd) (hx : a.eval x = .pointer (some ⟨g, 0, none⟩)) (hy : a.eval y = .agg h.cells.toArray) (hg : NodeAt w g h0)
    (k : K (a.put o.dst undef) (w.setRow g h.cells.toArray)) : o.wp Try.prog a w K Q :=
  wp_store_row 62 x y ho g h.cells.toArray hx hy 62 h0.cells.toArray hg info_node1 rfl (one_node h) k
theorem NodeAt.cells {w : World} {z : Nat} {a : Nd} (h : NodeAt w z a) : w.cell? ⟨z, 0, none⟩ = some (.int .i64 (a.d0 : Int)) ∧ w.cell? ⟨z, 1, none⟩ = some (.int .i64 (a.d1 : Int)) ∧ w.cell? ⟨z, 2, none⟩ = some (.bool a.held) ∧ w.cell? ⟨z, 3, none⟩ = some (.int .i64 a.led) :=
  ⟨cell_of_row w z 0 _ _ _ h, cell_of_row w z 1 _ _ _ h, cell_of_row w z 2 _ _ _ h, cell_of_row w z 3 _ _ _ h⟩

set_option maxRecDepth 100000 in
set_option maxHeartbeats 4000000 in
theorem longest_any {B : Nat} {w : World} {q : Nat} {ns : List Nd} {ps : List Pf} {a : Ad} (h : TrieAt B w q ns) (hT : TriOk ns ps) (ha : a.Ok) (hsm : ns.length ≤ 100000) :
    Calls Try.prog 23 #[.pointer (some ⟨q, 0, none⟩), .agg a.cells.toArray] w fun e w' => e = .returned (.tuple #[.int .i64 (bst ns a.num 32).1, .bool (bst ns a.num 32).2]) ∧ Below w.heap.size w w' := by
  have HN : Hid (∀ w, Calls Try.prog 26 #[.agg a.cells.toArray] w fun e w' => e = .returned (.int .u32 (a.num : Int)) ∧ Below w.heap.size w w') := Lib.hid (fun w => number_b a ha w)
  have HBT : Hid (∀ i : Nat, i < 32 → ∀ w, Calls Try.prog 29 #[.int .u32 (a.num : Int), .int .i64 (i : Int)] w fun e w' => e = .returned (.int .u32 (bitAt a.num i : Int)) ∧ w = w') := Lib.hid (fun i hi w => bit_any a.num i hi ha.lt w)
  obtain ⟨g, cap, hq, hr⟩ := h.ex
  have hpos := h.pos
  obtain ⟨cur, hg, _, hcap⟩ := row_at hr
  have hgl := (Array.getElem?_eq_some_iff.1 hg).1
  have hql := h.lt
  have HT : Hid (∀ k j, walk ns a.num k = some j → j < ns.length) := Lib.hid (fun k j hw => by obtain ⟨L, hL⟩ := hT; exact hL.lt hw)
  have HC : Hid (∀ W, Below w.heap.size w W → W.cell? ⟨q, 0, none⟩ = some (.slice (some ⟨g, 0, none⟩) ns.length cap) ∧ ∀ j, j < ns.length → W.cell? ⟨g, j * 4, none⟩ = some (.int .i64 ((nd ns j).d0 : Int)) ∧ W.cell? ⟨g, j * 4 + 1, none⟩ = some (.int .i64 ((nd ns j).d1 : Int)) ∧ W.cell? ⟨g, j * 4 + 2, none⟩ = some (.bool (nd ns j).held) ∧ W.cell? ⟨g, j * 4 + 3, none⟩ = some (.int .i64 (nd ns j).led)) := Lib.hid (fun W hW => by
    have key : ∀ i, W.cell? ⟨g, i, none⟩ = w.cell? ⟨g, i, none⟩ := fun i => hW.cell (p := ⟨g, i, none⟩) hgl
    refine ⟨(hW.cell (p := ⟨q, 0, none⟩) hql).trans (cell_of_row w q 0 _ _ _ hq), fun j hj => ?_⟩
    obtain ⟨e0, e1, e2, e3⟩ := node_cells hr hj
    exact ⟨(key _).trans e0, (key _).trans e1, (key _).trans e2, (key _).trans e3⟩)
  clear h hT ha hq hr hg hgl hql
  obtain ⟨x, hx⟩ : ∃ x, a.num = x := ⟨_, rfl⟩
  rw [hx] at HN HBT HT ⊢
  clear hx
  obtain ⟨a0, a1, a2, a3⟩ := a
  unfold Ad.cells at *
  dsimp only at *
  have HS : Hid (∀ W, Below (w.heap.size + 1) (w.alloc (.cells #[.int .u8 a0, .int .u8 a1, .int .u8 a2, .int .u8 a3] 24)) W → (fun W => (W.cell? ⟨w.heap.size, 0, none⟩ = some (.int .u8 a0) ∧ W.cell? ⟨w.heap.size, 1, none⟩ = some (.int .u8 a1) ∧ W.cell? ⟨w.heap.size, 2, none⟩ = some (.int .u8 a2) ∧ W.cell? ⟨w.heap.size, 3, none⟩ = some (.int .u8 a3)) ∧ W.cell? ⟨q, 0, none⟩ = some (.slice (some ⟨g, 0, none⟩) ns.length cap) ∧ W.cell? ⟨g, 0, none⟩ = some (.int .i64 ((nd ns 0).d0 : Int)) ∧ W.cell? ⟨g, 1, none⟩ = some (.int .i64 ((nd ns 0).d1 : Int)) ∧ W.cell? ⟨g, 2, none⟩ = some (.bool (nd ns 0).held) ∧ W.cell? ⟨g, 3, none⟩ = some (.int .i64 (nd ns 0).led)) W) := Lib.hid (fun W hW => by
    have e1 : W.heap[w.heap.size]? = some (.cells #[.int .u8 a0, .int .u8 a1, .int .u8 a2, .int .u8 a3] 24 (0, 0)) := by
      rw [hW.block _ (by omega)]
      exact heap_alloc_new w _
    have hW2 : Below w.heap.size w W := ((Below.refl _ w).alloc (Nat.le_refl _) _).trans (hW.mono (by omega))
    obtain ⟨e2, e3⟩ := HC.out W hW2
    have e4 := e3 0 hpos
    exact ⟨⟨cell_of_row _ _ 0 _ _ _ e1, cell_of_row _ _ 1 _ _ _ e1, cell_of_row _ _ 2 _ _ _ e1, cell_of_row _ _ 3 _ _ _ e1⟩, e2, by simpa using e4⟩)
  have HB : Hid (∀ W, Below (w.heap.size + 1) (w.alloc (.cells #[.int .u8 a0, .int .u8 a1, .int .u8 a2, .int .u8 a3] 24)) W → Below w.heap.size w W) := Lib.hid (fun W hW => ((Below.refl _ w).alloc (Nat.le_refl _) _).trans (hW.mono (by omega)))
  have hm : (w.alloc (.cells #[.int .u8 a0, .int .u8 a1, .int .u8 a2, .int .u8 a3] 24)).heap.size = w.heap.size + 1 := by simp
  rw [← hm] at HS HB
  have HM := Lib.hid hm
  clear hm
  generalize hnn : ns.length = n at *
  have hp0 : (0 : Int) < (n : Int) := by omega
  clear hnn
  go_enter Try.func23, Try.ntmps23
  go_upto_region 1 with fail
  generalize w.alloc (.cells #[.int .u8 a0, .int .u8 a1, .int .u8 a2, .int .u8 a3] 24) = m at *
  go_cut [6, 7] (fun v6 v7 wx => Hid (∃ z, v6 = .pointer (some ⟨z, 0, none⟩) ∧ v7 = .int .u32 (x : Int) ∧ NodeAt wx z (nd ns 0) ∧ w.heap.size ≤ z ∧ Below w.heap.size w wx))
  case first =>
    clear HC HT HBT
    refine wp_region_held_drew (S := (fun W => (W.cell? ⟨w.heap.size, 0, none⟩ = some (.int .u8 a0) ∧ W.cell? ⟨w.heap.size, 1, none⟩ = some (.int .u8 a1) ∧ W.cell? ⟨w.heap.size, 2, none⟩ = some (.int .u8 a2) ∧ W.cell? ⟨w.heap.size, 3, none⟩ = some (.int .u8 a3)) ∧ W.cell? ⟨q, 0, none⟩ = some (.slice (some ⟨g, 0, none⟩) n cap) ∧ W.cell? ⟨g, 0, none⟩ = some (.int .i64 ((nd ns 0).d0 : Int)) ∧ W.cell? ⟨g, 1, none⟩ = some (.int .i64 ((nd ns 0).d1 : Int)) ∧ W.cell? ⟨g, 2, none⟩ = some (.bool (nd ns 0).held) ∧ W.cell? ⟨g, 3, none⟩ = some (.int .i64 (nd ns 0).led))) (by kernel_rfl) (HS.out _ (Below.refl _ _).drew) (fun hHeld => ?_)
    obtain ⟨w0, hw0⟩ : ∃ W0, W0 = m.drew := ⟨_, rfl⟩
    have HB0 : Hid (Below m.heap.size m w0) := Lib.hid (by rw [hw0]; exact (Below.refl _ _).drew)
    rw [← hw0] at hHeld ⊢
    clear hw0
    refine wpAnyH_take (i := 0) (v := ?_) (by simp only [List.getElem?_toArray, List.getElem?_cons_zero] <;> rfl) (by kernel_rfl) (by kernel_rfl) (by kernel_rfl) (by exact fun _ _ _ h => h) (Or.inl ⟨by rfl, ?_⟩) hHeld ?_
    rotate_left
    · intro w hSw; (try dsimp only at hSw); go_simp; (try with_reducible rfl)
    (try simp only [Act.put, List.setIfInBounds_toArray, List.set_cons_zero, List.set_cons_succ])
    refine wpAnyH_take (i := 1) (v := ?_) (by simp only [List.getElem?_toArray, List.getElem?_cons_succ, List.getElem?_cons_zero] <;> rfl) (by kernel_rfl) (by kernel_rfl) (by kernel_rfl) (by exact fun _ _ _ h => h) (Or.inl ⟨by rfl, ?_⟩) hHeld ?_
    rotate_left
    · intro w hSw; (try dsimp only at hSw); go_simp; (try with_reducible rfl)
    (try simp only [Act.put, List.setIfInBounds_toArray, List.set_cons_zero, List.set_cons_succ])
    refine wpAnyH_take (i := 2) (v := ?_) (by simp only [List.getElem?_toArray, List.getElem?_cons_succ, List.getElem?_cons_zero] <;> rfl) (by kernel_rfl) (by kernel_rfl) (by kernel_rfl) (by exact fun _ _ _ h => h) (Or.inl ⟨by rfl, ?_⟩) hHeld ?_
    rotate_left
    · intro w hSw; (try dsimp only at hSw); go_simp; (try with_reducible rfl)
    (try simp only [Act.put, List.setIfInBounds_toArray, List.set_cons_zero, List.set_cons_succ])
    refine wpAnyH_take (i := 3) (v := ?_) (by simp only [List.getElem?_toArray, List.getElem?_cons_succ, List.getElem?_cons_zero] <;> rfl) (by kernel_rfl) (by kernel_rfl) (by kernel_rfl) (by exact fun _ _ _ h => h) (Or.inl ⟨by rfl, ?_⟩) hHeld ?_
    rotate_left
    · intro w hSw; (try dsimp only at hSw); go_simp; (try with_reducible rfl)
    (try simp only [Act.put, List.setIfInBounds_toArray, List.set_cons_zero, List.set_cons_succ])
    refine wpAnyH_take (i := 4) (v := ?_) (by simp only [List.getElem?_toArray, List.getElem?_cons_succ, List.getElem?_cons_zero] <;> rfl) (by kernel_rfl) (by kernel_rfl) (by kernel_rfl) (by exact fun _ _ _ h => h) (Or.inl ⟨by rfl, ?_⟩) hHeld ?_
    rotate_left
    · intro w hSw; (try dsimp only at hSw); go_simp; (try with_reducible rfl)
    (try simp only [Act.put, List.setIfInBounds_toArray, List.set_cons_zero, List.set_cons_succ])
    refine wpAnyH_take (i := 5) (v := ?_) (by simp only [List.getElem?_toArray, List.getElem?_cons_succ, List.getElem?_cons_zero] <;> rfl) (by kernel_rfl) (by kernel_rfl) (by kernel_rfl) (by exact fun _ _ _ h => h) (Or.inl ⟨by rfl, ?_⟩) hHeld ?_
    rotate_left
    · intro w hSw; (try dsimp only at hSw); go_simp; (try with_reducible rfl)
    (try simp only [Act.put, List.setIfInBounds_toArray, List.set_cons_zero, List.set_cons_succ])
    refine wpAnyH_take (i := 6) (v := ?_) (by simp only [List.getElem?_toArray, List.getElem?_cons_succ, List.getElem?_cons_zero] <;> rfl) (by kernel_rfl) (by kernel_rfl) (by kernel_rfl) (by exact fun _ _ _ h => h) (Or.inl ⟨by rfl, ?_⟩) hHeld ?_
    rotate_left
    · intro w hSw; (try dsimp only at hSw); go_simp; (try with_reducible rfl)
    (try simp only [Act.put, List.setIfInBounds_toArray, List.set_cons_zero, List.set_cons_succ])
    refine wpAnyH_ready (rs := [7, 8]) (by kernel_rfl) (by simp) ?_
    refine AllReadyH.cons (by simp only [List.getElem?_toArray, List.getElem?_cons_succ, List.getElem?_cons_zero] <;> rfl) (fun K hK => ?_) (AllReadyH.cons (by simp only [List.getElem?_toArray, List.getElem?_cons_succ, List.getElem?_cons_zero] <;> rfl) (fun K hK => ?_) AllReadyH.nil)
    · go_simp
      go_at_call 26
      refine (HN.out _).mono ?_
      rintro e w1 ⟨rfl, hb1⟩
      have HB1 := Lib.hid (HB0.out.trans (hb1.mono HB0.out.size))
      clear hb1
      go_wp2_with fail
      refine hK.out _ _ ?_ (fun hHeld => ?_)
      · exact HS.out _ HB1.out
      clear hK K
      (try simp only [Act.put, List.setIfInBounds_toArray, List.set_cons_zero, List.set_cons_succ])
      refine wpAnyH_ready (rs := [8]) (by kernel_rfl) (by simp) ?_
      refine AllReadyH.cons (by simp only [List.getElem?_toArray, List.getElem?_cons_succ, List.getElem?_cons_zero] <;> rfl) (fun K hK => ?_) AllReadyH.nil
      go_simp
      refine hK.out _ _ ?_ (fun hHeld => ?_)
      · exact HS.out _ (HB1.out.alloc HB1.out.size _)
      clear hK K
      (try simp only [Act.put, List.setIfInBounds_toArray, List.set_cons_zero, List.set_cons_succ])
      have hz1 : NodeAt (w1.alloc (.cells #[.int .i64 0, .int .i64 0, .bool false, .int .i64 0] 62)) w1.heap.size Nd.zero := nodeAt_new w1 Nd.zero
      refine wpAnyH_ready (rs := [9]) (by kernel_rfl) (by simp) ?_
      refine AllReadyH.cons (by simp only [List.getElem?_toArray, List.getElem?_cons_succ, List.getElem?_cons_zero] <;> rfl) (fun K hK => ?_) AllReadyH.nil
      rw [if_pos (by rfl)]
      refine wp_store_node (.tmp 6) (.tmp 15) rfl w1.heap.size (nd ns 0) Nd.zero rfl rfl hz1 ?_
      refine hK.out _ _ ?_ (fun hHeld => ?_)
      · exact HS.out _ (below_setRow (HB1.out.alloc HB1.out.size _) HB1.out.size _)
      clear hK K
      (try simp only [Act.put])
      refine wpAnyH_take (i := 10) (v := ?_) (by simp only [List.getElem?_toArray, List.getElem?_cons_succ, List.getElem?_cons_zero] <;> rfl) (by kernel_rfl) (by kernel_rfl) (by kernel_rfl) (by exact fun _ _ _ h => h) (Or.inl ⟨by rfl, ?_⟩) hHeld ?_
      rotate_left
      · intro w hSw; (try dsimp only at hSw); go_simp; (try with_reducible rfl)
      (try simp only [Act.put, List.setIfInBounds_toArray, List.set_cons_zero, List.set_cons_succ])
      refine wpAnyH_done (by kernel_rfl) ?_ _
      go_wp2_with fail
      go_meet
      exact Lib.hid ⟨w1.heap.size, rfl, rfl, hz1.stored _, by have := HB1.out.size; have := HM.out; omega, HB.out _ (below_setRow (HB1.out.alloc HB1.out.size _) HB1.out.size _)⟩
    · go_simp
      refine hK.out _ _ ?_ (fun hHeld => ?_)
      · exact HS.out _ (HB0.out.alloc HB0.out.size _)
      clear hK K
      (try simp only [Act.put, List.setIfInBounds_toArray, List.set_cons_zero, List.set_cons_succ])
      refine wpAnyH_ready (rs := [7]) (by kernel_rfl) (by simp) ?_
      refine AllReadyH.cons (by simp only [List.getElem?_toArray, List.getElem?_cons_succ, List.getElem?_cons_zero] <;> rfl) (fun K hK => ?_) AllReadyH.nil
      go_simp
      go_at_call 26
      refine (HN.out _).mono ?_
      rintro e w1 ⟨rfl, hb1⟩
      have hz1 : NodeAt w1 w0.heap.size Nd.zero := (nodeAt_new w0 Nd.zero).below hb1 (by simp)
      have HB1 := Lib.hid ((HB0.out.alloc HB0.out.size _).trans (hb1.mono (Nat.le_trans HB0.out.size (by simp))))
      clear hb1
      go_wp2_with fail
      refine hK.out _ _ ?_ (fun hHeld => ?_)
      · exact HS.out _ HB1.out
      clear hK K
      (try simp only [Act.put, List.setIfInBounds_toArray, List.set_cons_zero, List.set_cons_succ])
      refine wpAnyH_ready (rs := [9]) (by kernel_rfl) (by simp) ?_
      refine AllReadyH.cons (by simp only [List.getElem?_toArray, List.getElem?_cons_succ, List.getElem?_cons_zero] <;> rfl) (fun K hK => ?_) AllReadyH.nil
      rw [if_pos (by rfl)]
      refine wp_store_node (.tmp 6) (.tmp 15) rfl w0.heap.size (nd ns 0) Nd.zero rfl rfl hz1 ?_
      refine hK.out _ _ ?_ (fun hHeld => ?_)
      · exact HS.out _ (below_setRow HB1.out HB0.out.size _)
      clear hK K
      (try simp only [Act.put])
      refine wpAnyH_take (i := 10) (v := ?_) (by simp only [List.getElem?_toArray, List.getElem?_cons_succ, List.getElem?_cons_zero] <;> rfl) (by kernel_rfl) (by kernel_rfl) (by kernel_rfl) (by exact fun _ _ _ h => h) (Or.inl ⟨by rfl, ?_⟩) hHeld ?_
      rotate_left
      · intro w hSw; (try dsimp only at hSw); go_simp; (try with_reducible rfl)
      (try simp only [Act.put, List.setIfInBounds_toArray, List.set_cons_zero, List.set_cons_succ])
      refine wpAnyH_done (by kernel_rfl) ?_ _
      go_wp2_with fail
      go_meet
      exact Lib.hid ⟨w0.heap.size, rfl, rfl, hz1.stored _, by have := HB0.out.size; have := HM.out; omega, HB.out _ (below_setRow HB1.out HB0.out.size _)⟩
  case rest =>
    obtain ⟨z, rfl, rfl, hz, hwz, hbz⟩ := hcut.out
    clear hcut HS HB HM HN
    obtain ⟨z0, z1, z2, z3⟩ := hz.cells
    have HZ := Lib.hid (And.intro hz hbz)
    clear hz hbz
    go_wp2_with fail
    go_quiet (fail)
    have HZ2 : Hid (NodeAt (wc.drewN nq) z (nd ns 0) ∧ Below w.heap.size w (wc.drewN nq)) := Lib.hid ⟨HZ.out.1, below_drewN HZ.out.2 _⟩
    clear HZ z0 z1 z2 z3
    generalize wc.drewN nq = wd at *
    go_wp2_with fail
    go_loopg [4, 5, 22] 32 (fun k v4 v5 v22 wr => ∃ i j : Nat, v22 = .int .i64 (i : Int) ∧ i + k = 32 ∧ v4 = .int .i64 (bst ns x i).1 ∧ v5 = .bool (bst ns x i).2 ∧ Hid (walk ns x i = some j ∧ NodeAt wr z (nd ns j) ∧ Below w.heap.size w wr))
    case atStart => exact ⟨0, 0, rfl, by omega, rfl, rfl, Lib.hid ⟨rfl, HZ2.out.1, HZ2.out.2⟩⟩
    case round =>
      clear HZ2
      obtain ⟨i, j, rfl, hik, rfl, rfl, HW⟩ := hrel
      cases gk with
      | zero =>
        obtain rfl : i = 32 := by omega
        have HF := Lib.hid HW.out.2.2
        clear HW
        go_wp2_with fail
        go_ret2
        exact ⟨rfl, HF.out⟩
      | succ k =>
        have hi : i < 32 := by omega
        have HBI := Lib.hid (HBT.out i hi wr)
        obtain ⟨hwk, hnz, hbw⟩ := HW.out
        obtain ⟨z0, z1, z2, z3⟩ := hnz.cells
        have hjl := HT.out _ _ hwk
        obtain ⟨cq, cn⟩ := HC.out wr hbw
        have i1 : (i : Int) < 32 := by omega
        have hst0 : (nd ns j).dn (bitAt x i) = 0 → ∀ d, bst ns x (i + d) = bst ns x i := fun h0 d => bst_stop (walk_none hwk h0) d
        have hst1 : (nd ns j).dn (bitAt x i) ≠ 0 → walk ns x (i + 1) = some ((nd ns j).dn (bitAt x i)) := fun h0 => walk_next hwk h0
        obtain ⟨s, hs⟩ : ∃ s, bitAt x i = s := ⟨_, rfl⟩
        have hs2 := bitAt_lt x i
        rw [hs] at HBI hst0 hst1 hs2
        obtain ⟨d, hd⟩ : ∃ d, (nd ns j).dn s = d := ⟨_, rfl⟩
        rw [hd] at hst0 hst1
        have HD : Hid ((s = 0 ∧ wr.cell? ⟨z, 0, none⟩ = some (.int .i64 (d : Int))) ∨ (s = 1 ∧ wr.cell? ⟨z, 1, none⟩ = some (.int .i64 (d : Int)))) := Lib.hid (by
          rcases (show s = 0 ∨ s = 1 by omega) with e | e
          · exact .inl ⟨e, by rw [z0, ← hd, e]; rfl⟩
          · exact .inr ⟨e, by rw [z1, ← hd, e]; rfl⟩)
        have HNZ := Lib.hid hnz
        have HBW := Lib.hid hbw
        by_cases c : d = 0
        · subst c
          have e32 : bst ns x 32 = bst ns x i := by
            have := hst0 rfl (32 - i)
            rwa [show i + (32 - i) = 32 by omega] at this
          have HE := Lib.hid e32
          clear hst0 hst1 hd hs z0 z1 z2 z3 cq cn HW hwk hnz hbw e32
          rcases HD.out with ⟨rfl, zz⟩ | ⟨rfl, zz⟩
          · go_wp2_with fail
            refine HBI.out.mono ?_
            rintro e w3 ⟨rfl, rfl⟩
            go_wp2_with fail
            go_ret2
            exact ⟨by rw [HE.out]; rfl, HBW.out⟩
          · go_wp2_with fail
            refine HBI.out.mono ?_
            rintro e w3 ⟨rfl, rfl⟩
            go_wp2_with fail
            go_ret2
            exact ⟨by rw [HE.out]; rfl, HBW.out⟩
        · have hw2 := hst1 c
          have hdl := HT.out _ _ hw2
          obtain ⟨y0, y1, y2, y3⟩ := cn d hdl
          have hd1 : (d : Int) < (n : Int) := by omega
          have hd0 : ((d : Int) == 0) = false := by simp; omega
          have hsr := hnz.stored (nd ns d)
          have hbr := below_setRow hbw hwz (nd ns d).cells.toArray
          have HR : Hid (walk ns x (i + 1) = some d ∧ NodeAt (wr.setRow z (nd ns d).cells.toArray) z (nd ns d) ∧ Below w.heap.size w (wr.setRow z (nd ns d).cells.toArray)) := Lib.hid ⟨hw2, hsr, hbr⟩
          have HH1 : Hid ((nd ns d).held = true → bst ns x (i + 1) = ((nd ns d).led, true)) := Lib.hid (fun hh => bst_held hw2 hh)
          have HH0 : Hid ((nd ns d).held = false → bst ns x (i + 1) = bst ns x i) := Lib.hid (fun hh => bst_not hw2 hh)
          clear hst0 hst1 hd hs z0 z1 z2 z3 cn HW hwk hnz hbw hw2 hsr hbr hjl
          rcases HD.out with ⟨rfl, zz⟩ | ⟨rfl, zz⟩
          all_goals
            go_wp2_with fail
            refine HBI.out.mono ?_
            rintro e w3 ⟨rfl, rfl⟩
            go_upto_region 9 with (refine wpList_store_node rfl (.tmp 6) (.tmp 39) rfl z (nd ns d) (nd ns j) rfl rfl HNZ.out ?_)
            obtain ⟨x0, x1, x2, x3⟩ := HR.out.2.1.cells
            clear y0 y1 y2 y3 zz cq
            generalize wr.setRow z (nd ns d).cells.toArray = w5 at *
            cases hh : (nd ns d).held with
            | true =>
              rw [hh] at x2
              have HB1 := Lib.hid (HH1.out hh)
              go_wp2_with fail
              go_roundg k
              case measure => omega
              case rel => exact ⟨i + 1, d, by go_num, by omega, by rw [HB1.out], by rw [HB1.out], HR⟩
            | false =>
              rw [hh] at x2
              have HB0 := Lib.hid (HH0.out hh)
              go_wp2_with fail
              go_roundg k
              case measure => omega
              case rel => exact ⟨i + 1, d, by go_num, by omega, by rw [HB0.out], by rw [HB0.out], HR⟩
end Go.Proofs.Ytcadjgmglaimdaa
