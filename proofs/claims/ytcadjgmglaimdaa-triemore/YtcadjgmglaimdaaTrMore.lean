/- One prefix more changes only what is within it. -/
import Derived.Test.YtcadjgmglaimdaaTrAll
import Derived.Test.YtcadjgmglaimdaaTrNest
namespace Go.Proofs.Ytcadjgmglaimdaa
open Go.RowKit Go.Maps

theorem wp_append_eq {P : Program} {o : Oper} {a : Act} {w : World} {K : Act → World → Prop} {Q : Exit → Act → World → Prop} (s x : Operand) (t u : TypeId)
    (ho : o.op = .call { callee := .builtin .append, args := #[s, x], argTypes := #[t, u] })
    {vs vx v : Value} {w' : World} (hs : a.eval s = vs) (hx : a.eval x = vx) (hrun : (Builtin.append_ #[t, u] o.type #[vs, vx]).run P w = .ok v w') (h : K (a.put o.dst v) w') : o.wp P a w K Q := by
  unfold Oper.wp execOp
  simp only [ho, resolve, invoke, builtin, Sem.run_bind, Sem.run_pure, Result.andThen_ok, List.map_toArray, List.map_cons, List.map_nil, hs, hx, hrun]
  exact h
theorem own_mono {B B' : Nat} {w : World} {v : Value} {ps : List Pf} (h : OwnPfs B w v ps) (hB : B' ≤ B) : OwnPfs B' w v ps := World.ownsRow.mono h hB

/-- What Find told of one address. -/
def Told1 (w : World) (V1 V2 V3 : Value) (ps : List Pf) (a : Ad) : Prop :=
  (wrong ps ≠ 0 ∧ V1 = .slice none 0 0 ∧ V2 = .slice none 0 0 ∧ V3 = .int .i64 (wrong ps)) ∨
  (wrong ps = 0 ∧ ∃ g h, V1 = .slice (some ⟨g, 0, none⟩) 1 1 ∧ V2 = .slice (some ⟨h, 0, none⟩) 1 1 ∧ V3 = .int .i64 0 ∧ w.cell? ⟨g, 0, none⟩ = some (.int .i64 (lookTo a.num ps)) ∧ w.cell? ⟨h, 0, none⟩ = some (.bool (lookIs a.num ps)))
theorem Told1.below {w w' : World} {V1 V2 V3 : Value} {ps : List Pf} {a : Ad} (h : Told1 w V1 V2 V3 ps a) (hb : Below w.heap.size w w') : Told1 w' V1 V2 V3 ps a := by
  rcases h with h | ⟨h0, g, k, h1, h2, h3, h4, h5⟩
  · exact .inl h
  · exact .inr ⟨h0, g, k, h1, h2, h3, (hb.cell (p := ⟨g, 0, none⟩) (World.block_lt_of_cell? _ _ h4)).trans h4, (hb.cell (p := ⟨k, 0, none⟩) (World.block_lt_of_cell? _ _ h5)).trans h5⟩
theorem found1 {w w' : World} {ps : List Pf} {a : Ad} {e : Ending} (h : Found w ps [a] e w') : ∃ V1 V2 V3, e = .returned (.tuple #[V1, V2, V3]) ∧ Below w.heap.size w w' ∧ Told1 w' V1 V2 V3 ps a := by
  obtain ⟨hb, ⟨h0, rfl⟩ | ⟨h0, g, k, rfl, _, _, t⟩⟩ := h
  · exact ⟨_, _, _, rfl, hb, .inl ⟨h0, rfl, rfl, rfl⟩⟩
  · obtain ⟨t1, t2⟩ := t.at (j := 0) (a := a) rfl
    exact ⟨_, _, _, rfl, hb, .inr ⟨h0, g, k, rfl, rfl, rfl, t1, t2⟩⟩
theorem ads_one {w : World} {b : Nat} {a : Ad} (h : w.heap[b]? = some (.cells a.cells.toArray 24 (0, 0))) (ha : a.Ok) : AdsIn w (some ⟨b, 0, none⟩) [a] := by
  refine ⟨fun _ => ⟨b, 0, rfl, (Array.getElem?_eq_some_iff.1 h).1, fun j x hx => ?_⟩, fun x hx => ?_, by simp⟩
  · have hj : j < 1 := by
      rcases Nat.lt_or_ge j 1 with hj | hj
      · exact hj
      · rw [List.getElem?_eq_none (by simpa using hj)] at hx; cases hx
    obtain rfl : j = 0 := by omega
    simp at hx
    subst hx
    exact ⟨cell_of_row w b 0 _ _ _ h, cell_of_row w b 1 _ _ _ h, cell_of_row w b 2 _ _ _ h, cell_of_row w b 3 _ _ _ h⟩
  · obtain rfl : x = a := by simpa using hx
    exact ha
theorem find_more {B : Nat} {W : World} {g n cap b : Nat} {ps : List Pf} {p : Pf} {a : Ad} (h : OwnPfs B W (.slice (some ⟨g, 0, none⟩) (n + 1) cap) (ps ++ [p])) (hb : W.heap[b]? = some (.cells a.cells.toArray 24 (0, 0))) (hok : ∀ q ∈ ps ++ [p], q.ad.Ok) (ha : a.Ok) (hn : ps.length * 24 + 4096 ≤ 140737488355328) :
    Calls Try.prog 9 #[.slice (some ⟨g, 0, none⟩) (n + 1) cap, .slice (some ⟨b, 0, none⟩) 1 1] W (Found W (ps ++ [p]) [a]) := by
  obtain ⟨A', cap', e, hin, hc⟩ := h.form hok (by rw [List.length_append, List.length_singleton]; omega)
  injection e with e1 e2 e3
  subst e1 e3
  have := find_any hin hc (ads_one hb ha) (cad := 1) (by simp)
  rw [← e2] at this
  exact this
theorem more_look {x : Nat} {ps : List Pf} {p : Pf} : (within x p → lookIs x (ps ++ [p]) = true ∧ (lookTo x (ps ++ [p]) = lookTo x ps ∨ lookTo x (ps ++ [p]) = p.led)) ∧ (¬ within x p → lookTo x (ps ++ [p]) = lookTo x ps) := by
  unfold lookIs lookTo
  rw [look_snoc]
  unfold pick
  constructor
  · intro hw
    have h0 := hw.1.1
    split
    · exact ⟨decide_eq_true h0, .inr rfl⟩
    · rename_i hc
      refine ⟨decide_eq_true ?_, .inl rfl⟩
      rcases Int.lt_or_le (lookB x ps).1 p.bits with hl | hl
      · exact absurd ⟨hl, hw⟩ hc
      · omega
  · intro hw
    rw [if_neg (fun h => hw h.2)]

set_option maxRecDepth 100000 in
set_option maxHeartbeats 8000000 in
theorem more_law {w : World} {A : Option Addr} {ps : List Pf} {p : Pf} {a : Ad} {len cap : Nat} (hC : CameP w A cap ps) (hl : ps.length = len) (hp : p.ad.Ok) (ha : a.Ok) :
    Calls Try.prog 6 #[.slice A len cap, .agg #[.int .u8 p.ad.a0, .int .u8 p.ad.a1, .int .u8 p.ad.a2, .int .u8 p.ad.a3, .int .i64 p.bits, .int .i64 p.led], .agg #[.int .u8 a.a0, .int .u8 a.a1, .int .u8 a.a2, .int .u8 a.a3]] w fun e w' => e = .returned (.bool true) ∧ Below w.heap.size w w' := by
  subst hl
  have H1 := Lib.hid (fun w => alive6_any w)
  have hsz := hC.size
  have HOK : Hid ((∀ q ∈ ps ++ [p], q.ad.Ok) ∧ a.Ok) := Lib.hid ⟨fun q hq => by
    rcases List.mem_append.1 hq with hq | hq
    · exact hC.lies.ok q hq
    · obtain rfl : q = p := by simpa using hq
      exact hp, ha⟩
  have HWP : Hid (∀ w, Calls Try.prog 12 #[.agg #[.int .u8 a.a0, .int .u8 a.a1, .int .u8 a.a2, .int .u8 a.a3], .agg #[.int .u8 p.ad.a0, .int .u8 p.ad.a1, .int .u8 p.ad.a2, .int .u8 p.ad.a3, .int .i64 p.bits, .int .i64 p.led]] w fun e w' => e = .returned (.bool (inB a.num p)) ∧ Below w.heap.size w w') := Lib.hid (fun w => within_any a p ha hp w)
  have HMI : Hid ((inB a.num p = true → lookIs a.num (ps ++ [p]) = true ∧ (lookTo a.num (ps ++ [p]) = lookTo a.num ps ∨ lookTo a.num (ps ++ [p]) = p.led)) ∧ (inB a.num p = false → lookTo a.num (ps ++ [p]) = lookTo a.num ps)) := Lib.hid ⟨fun h => more_look.1 (inB_iff.1 h), fun h => more_look.2 (fun k => by rw [inB_true k] at h; cases h)⟩
  have s1 : (w.alloc (.cells #[.int .u8 p.ad.a0, .int .u8 p.ad.a1, .int .u8 p.ad.a2, .int .u8 p.ad.a3, .int .i64 p.bits, .int .i64 p.led] 26)).heap.size = w.heap.size + 1 := by simp
  have b1 : ((w.alloc (.cells #[.int .u8 p.ad.a0, .int .u8 p.ad.a1, .int .u8 p.ad.a2, .int .u8 p.ad.a3, .int .i64 p.bits, .int .i64 p.led] 26)).alloc (.cells #[.int .u8 a.a0, .int .u8 a.a1, .int .u8 a.a2, .int .u8 a.a3] 24)).heap[w.heap.size]? = some (.cells #[.int .u8 p.ad.a0, .int .u8 p.ad.a1, .int .u8 p.ad.a2, .int .u8 p.ad.a3, .int .i64 p.bits, .int .i64 p.led] 26 (0, 0)) := by
    rw [alloc_at _ _ _ (by omega)]
    exact heap_alloc_new w _
  have b2 : ((w.alloc (.cells #[.int .u8 p.ad.a0, .int .u8 p.ad.a1, .int .u8 p.ad.a2, .int .u8 p.ad.a3, .int .i64 p.bits, .int .i64 p.led] 26)).alloc (.cells #[.int .u8 a.a0, .int .u8 a.a1, .int .u8 a.a2, .int .u8 a.a3] 24)).heap[w.heap.size + 1]? = some (.cells #[.int .u8 a.a0, .int .u8 a.a1, .int .u8 a.a2, .int .u8 a.a3] 24 (0, 0)) := by
    rw [← s1]
    exact heap_alloc_new _ _
  have b0 : Below w.heap.size w ((w.alloc (.cells #[.int .u8 p.ad.a0, .int .u8 p.ad.a1, .int .u8 p.ad.a2, .int .u8 p.ad.a3, .int .i64 p.bits, .int .i64 p.led] 26)).alloc (.cells #[.int .u8 a.a0, .int .u8 a.a1, .int .u8 a.a2, .int .u8 a.a3] 24)) := ((Below.refl _ w).alloc (Nat.le_refl _) _).alloc (by omega) _
  have HS0 : Hid (∀ W, Below ((w.alloc (.cells #[.int .u8 p.ad.a0, .int .u8 p.ad.a1, .int .u8 p.ad.a2, .int .u8 p.ad.a3, .int .i64 p.bits, .int .i64 p.led] 26)).alloc (.cells #[.int .u8 a.a0, .int .u8 a.a1, .int .u8 a.a2, .int .u8 a.a3] 24)).heap.size ((w.alloc (.cells #[.int .u8 p.ad.a0, .int .u8 p.ad.a1, .int .u8 p.ad.a2, .int .u8 p.ad.a3, .int .i64 p.bits, .int .i64 p.led] 26)).alloc (.cells #[.int .u8 a.a0, .int .u8 a.a1, .int .u8 a.a2, .int .u8 a.a3] 24)) W → (fun W => (W.cell? ⟨w.heap.size, 0, none⟩ = some (.int .u8 p.ad.a0) ∧ W.cell? ⟨w.heap.size, 1, none⟩ = some (.int .u8 p.ad.a1) ∧ W.cell? ⟨w.heap.size, 2, none⟩ = some (.int .u8 p.ad.a2) ∧ W.cell? ⟨w.heap.size, 3, none⟩ = some (.int .u8 p.ad.a3) ∧ W.cell? ⟨w.heap.size, 4, none⟩ = some (.int .i64 p.bits) ∧ W.cell? ⟨w.heap.size, 5, none⟩ = some (.int .i64 p.led)) ∧ W.cell? ⟨w.heap.size + 1, 0, none⟩ = some (.int .u8 a.a0) ∧ W.cell? ⟨w.heap.size + 1, 1, none⟩ = some (.int .u8 a.a1) ∧ W.cell? ⟨w.heap.size + 1, 2, none⟩ = some (.int .u8 a.a2) ∧ W.cell? ⟨w.heap.size + 1, 3, none⟩ = some (.int .u8 a.a3)) W ∧ Below w.heap.size w W) := Lib.hid (fun W hW => by
    have e1 := (hW.block _ (by simp; omega)).trans b1
    have e2 := (hW.block _ (by simp)).trans b2
    exact ⟨⟨⟨cell_of_row _ _ 0 _ _ _ e1, cell_of_row _ _ 1 _ _ _ e1, cell_of_row _ _ 2 _ _ _ e1, cell_of_row _ _ 3 _ _ _ e1, cell_of_row _ _ 4 _ _ _ e1, cell_of_row _ _ 5 _ _ _ e1⟩, cell_of_row _ _ 0 _ _ _ e2, cell_of_row _ _ 1 _ _ _ e2, cell_of_row _ _ 2 _ _ _ e2, cell_of_row _ _ 3 _ _ _ e2⟩, b0.trans (hW.mono b0.size)⟩)
  have HC := Lib.hid hC
  clear hC hp ha s1 b0 b1 b2
  obtain ⟨n, hn⟩ : ∃ n, ps.length = n := ⟨_, rfl⟩
  have HN := Lib.hid hn
  rw [hn]
  clear hn
  go_enter Try.func6, Try.ntmps6
  go_wp2_with fail
  generalize ((w.alloc (.cells #[.int .u8 p.ad.a0, .int .u8 p.ad.a1, .int .u8 p.ad.a2, .int .u8 p.ad.a3, .int .i64 p.bits, .int .i64 p.led] 26)).alloc (.cells #[.int .u8 a.a0, .int .u8 a.a1, .int .u8 a.a2, .int .u8 a.a3] 24)) = m0 at *
  refine (H1.out _).mono ?_
  rintro e w1 ⟨rfl, hb1⟩
  have HB1 := Lib.hid hb1
  obtain ⟨⟨⟨x0, x1, x2, x3, x4, x5⟩, z0, z1, z2, z3⟩, hw1⟩ := HS0.out w1 hb1
  have hnew : (w1.alloc (.cells #[.int .u8 a.a0, .int .u8 a.a1, .int .u8 a.a2, .int .u8 a.a3] 24)).heap[w1.heap.size]? = some (.cells a.cells.toArray 24 (0, 0)) := heap_alloc_new w1 _
  have hb2 : Below w1.heap.size w1 (w1.alloc (.cells #[.int .u8 a.a0, .int .u8 a.a1, .int .u8 a.a2, .int .u8 a.a3] 24)) := (Below.refl _ _).alloc (Nat.le_refl _) _
  have hFd := find_any (HC.out.lies.below (hw1.trans (hb2.mono hw1.size))) HC.out.room (ads_one hnew HOK.out.2) (cad := 1) (by simp)
  rw [HN.out] at hFd
  have H2 : Hid (Calls Try.prog 9 #[.slice A n cap, .slice (some ⟨w1.heap.size, 0, none⟩) 1 1] (w1.alloc (.cells #[.int .u8 a.a0, .int .u8 a.a1, .int .u8 a.a2, .int .u8 a.a3] 24)) (Found (w1.alloc (.cells #[.int .u8 a.a0, .int .u8 a.a1, .int .u8 a.a2, .int .u8 a.a3] 24)) ps [a])) := Lib.hid hFd
  have HB2 := Lib.hid hb2
  clear hFd hb2 hnew hb1 hw1
  go_wp2_with fail
  refine H2.out.mono ?_
  intro e m hF
  obtain ⟨U1, U2, U3, rfl, hbf, hT⟩ := found1 hF
  have HBM : Hid (Below m0.heap.size m0 m) := Lib.hid (HB1.out.trans ((HB2.out.trans (hbf.mono HB2.out.size)).mono HB1.out.size))
  have HTM := Lib.hid hT
  have HS : Hid (∀ W, Below m.heap.size m W → (fun W => (W.cell? ⟨w.heap.size, 0, none⟩ = some (.int .u8 p.ad.a0) ∧ W.cell? ⟨w.heap.size, 1, none⟩ = some (.int .u8 p.ad.a1) ∧ W.cell? ⟨w.heap.size, 2, none⟩ = some (.int .u8 p.ad.a2) ∧ W.cell? ⟨w.heap.size, 3, none⟩ = some (.int .u8 p.ad.a3) ∧ W.cell? ⟨w.heap.size, 4, none⟩ = some (.int .i64 p.bits) ∧ W.cell? ⟨w.heap.size, 5, none⟩ = some (.int .i64 p.led)) ∧ W.cell? ⟨w.heap.size + 1, 0, none⟩ = some (.int .u8 a.a0) ∧ W.cell? ⟨w.heap.size + 1, 1, none⟩ = some (.int .u8 a.a1) ∧ W.cell? ⟨w.heap.size + 1, 2, none⟩ = some (.int .u8 a.a2) ∧ W.cell? ⟨w.heap.size + 1, 3, none⟩ = some (.int .u8 a.a3)) W) := Lib.hid (fun W hW => (HS0.out W (HBM.out.trans (hW.mono HBM.out.size))).1)
  have HBW : Hid (∀ W, Below m.heap.size m W → Below w.heap.size w W) := Lib.hid (fun W hW => (HS0.out W (HBM.out.trans (hW.mono HBM.out.size))).2)
  have HCL : Hid (∀ W, Below m.heap.size m W → Calls Try.prog 18 #[.slice A n cap] W (Cloned ps W)) := Lib.hid (fun W hW => by
    have := clone_pfs (HC.out.lies.below (HBW.out W hW)) HC.out.nil HC.out.size
    rw [HN.out] at this
    exact this)
  clear hF hbf hT HB1 HB2 H2 H1 HS0 HBM x0 x1 x2 x3 x4 x5 z0 z1 z2 z3
  go_upto_region 4 with fail
  go_cut [10, 11, 12] (fun v10 v11 v12 wx => Hid (Below m.heap.size m wx ∧ Told1 wx v10 v11 v12 (ps ++ [p]) a))
  case first =>
    refine wp_region_held_drew (S := (fun W => (W.cell? ⟨w.heap.size, 0, none⟩ = some (.int .u8 p.ad.a0) ∧ W.cell? ⟨w.heap.size, 1, none⟩ = some (.int .u8 p.ad.a1) ∧ W.cell? ⟨w.heap.size, 2, none⟩ = some (.int .u8 p.ad.a2) ∧ W.cell? ⟨w.heap.size, 3, none⟩ = some (.int .u8 p.ad.a3) ∧ W.cell? ⟨w.heap.size, 4, none⟩ = some (.int .i64 p.bits) ∧ W.cell? ⟨w.heap.size, 5, none⟩ = some (.int .i64 p.led)) ∧ W.cell? ⟨w.heap.size + 1, 0, none⟩ = some (.int .u8 a.a0) ∧ W.cell? ⟨w.heap.size + 1, 1, none⟩ = some (.int .u8 a.a1) ∧ W.cell? ⟨w.heap.size + 1, 2, none⟩ = some (.int .u8 a.a2) ∧ W.cell? ⟨w.heap.size + 1, 3, none⟩ = some (.int .u8 a.a3))) (by kernel_rfl) (HS.out _ (Below.refl _ _).drew) (fun hHeld => ?_)
    obtain ⟨w0, hw0⟩ : ∃ W0, W0 = m.drew := ⟨_, rfl⟩
    have HB0 : Hid (Below m.heap.size m w0) := Lib.hid (by rw [hw0]; exact (Below.refl _ _).drew)
    rw [← hw0] at hHeld ⊢
    clear hw0
    refine wpAnyH_take (i := 0) (v := ?_) (by simp only [List.getElem?_toArray, List.getElem?_cons_zero] <;> rfl) (by kernel_rfl) (by kernel_rfl) (by kernel_rfl) (by exact fun _ _ _ h => h) (Or.inl ⟨by rfl, ?_⟩) hHeld ?_
    rotate_left
    · intro w hSw; (try dsimp only at hSw); go_simp; (try with_reducible rfl)
    (try simp only [Act.put, List.setIfInBounds_toArray, List.set_cons_zero, List.set_cons_succ])
    refine wpAnyH_take (i := 2) (v := ?_) (by simp only [List.getElem?_toArray, List.getElem?_cons_succ, List.getElem?_cons_zero] <;> rfl) (by kernel_rfl) (by kernel_rfl) (by kernel_rfl) (by exact fun _ _ _ h => h) (Or.inl ⟨by rfl, ?_⟩) hHeld ?_
    rotate_left
    · intro w hSw; (try dsimp only at hSw); go_simp; (try with_reducible rfl)
    (try simp only [Act.put, List.setIfInBounds_toArray, List.set_cons_zero, List.set_cons_succ])
    refine wpAnyH_take (i := 5) (v := ?_) (by simp only [List.getElem?_toArray, List.getElem?_cons_succ, List.getElem?_cons_zero] <;> rfl) (by kernel_rfl) (by kernel_rfl) (by kernel_rfl) (by exact fun _ _ _ h => h) (Or.inl ⟨by rfl, ?_⟩) hHeld ?_
    rotate_left
    · intro w hSw; (try dsimp only at hSw); go_simp; (try with_reducible rfl)
    (try simp only [Act.put, List.setIfInBounds_toArray, List.set_cons_zero, List.set_cons_succ])
    refine wpAnyH_ready (rs := [1, 3, 6]) (by kernel_rfl) (by simp) ?_
    refine AllReadyH.cons (by simp only [List.getElem?_toArray, List.getElem?_cons_succ, List.getElem?_cons_zero] <;> rfl) (fun K hK => ?_) (AllReadyH.cons (by simp only [List.getElem?_toArray, List.getElem?_cons_succ, List.getElem?_cons_zero] <;> rfl) (fun K hK => ?_) (AllReadyH.cons (by simp only [List.getElem?_toArray, List.getElem?_cons_succ, List.getElem?_cons_zero] <;> rfl) (fun K hK => ?_) AllReadyH.nil))
    · go_simp
      go_at_call 18
      refine (HCL.out _ HB0.out).mono ?_
      rintro e w1 ⟨v, rfl, ho, hbn⟩
      have HB1 := Lib.hid (HB0.out.trans (hbn.mono HB0.out.size))
      have HO1 := Lib.hid (own_mono ho HB0.out.size)
      clear ho hbn
      go_wp2_with fail
      refine hK.out _ _ ?_ (fun hHeld => ?_)
      · exact HS.out _ HB1.out
      clear hK K
      (try simp only [Act.put, List.setIfInBounds_toArray, List.set_cons_zero, List.set_cons_succ])
      refine wpAnyH_ready (rs := [3, 6]) (by kernel_rfl) (by simp) ?_
      refine AllReadyH.cons (by simp only [List.getElem?_toArray, List.getElem?_cons_succ, List.getElem?_cons_zero] <;> rfl) (fun K hK => ?_) (AllReadyH.cons (by simp only [List.getElem?_toArray, List.getElem?_cons_succ, List.getElem?_cons_zero] <;> rfl) (fun K hK => ?_) AllReadyH.nil)
      · go_simp
        have hbn : Below w1.heap.size w1 (w1.alloc (.cells #[.int .u8 p.ad.a0, .int .u8 p.ad.a1, .int .u8 p.ad.a2, .int .u8 p.ad.a3, .int .i64 p.bits, .int .i64 p.led] 26)) := (Below.refl _ _).alloc (Nat.le_refl _) _
        have HB2 := Lib.hid (HB1.out.trans (hbn.mono HB1.out.size))
        have HO2 := Lib.hid (HO1.out.below hbn)
        have HP2 : Hid ((w1.alloc (.cells #[.int .u8 p.ad.a0, .int .u8 p.ad.a1, .int .u8 p.ad.a2, .int .u8 p.ad.a3, .int .i64 p.bits, .int .i64 p.led] 26)).heap[w1.heap.size]? = some (.cells p.cells.toArray 26 (0, 0))) := Lib.hid (heap_alloc_new w1 _)
        clear hbn
        generalize w1.alloc (.cells #[.int .u8 p.ad.a0, .int .u8 p.ad.a1, .int .u8 p.ad.a2, .int .u8 p.ad.a3, .int .i64 p.bits, .int .i64 p.led] 26) = w2 at *
        refine hK.out _ _ ?_ (fun hHeld => ?_)
        · exact HS.out _ HB2.out
        clear hK K
        (try simp only [Act.put, List.setIfInBounds_toArray, List.set_cons_zero, List.set_cons_succ])
        refine wpAnyH_ready (rs := [4, 6]) (by kernel_rfl) (by simp) ?_
        refine AllReadyH.cons (by simp only [List.getElem?_toArray, List.getElem?_cons_succ, List.getElem?_cons_zero] <;> rfl) (fun K hK => ?_) (AllReadyH.cons (by simp only [List.getElem?_toArray, List.getElem?_cons_succ, List.getElem?_cons_zero] <;> rfl) (fun K hK => ?_) AllReadyH.nil)
        · obtain ⟨g, cap', w3, hr, ho, hbW, hfr⟩ := pfs_append HO2.out HB2.out.size hsz HP2.out
          have HB3 := Lib.hid (HB2.out.trans hbW)
          have HQ3 := Lib.hid ho
          clear ho hbW hfr
          rw [if_pos (by rfl)]
          refine wp_append_eq (.tmp 25) (.tmp 27) 22 22 rfl rfl rfl (hr _) ?_
          clear hr
          refine hK.out _ _ ?_ (fun hHeld => ?_)
          · exact HS.out _ HB3.out
          clear hK K
          (try simp only [Act.put, List.setIfInBounds_toArray, List.set_cons_zero, List.set_cons_succ])
          refine wpAnyH_ready (rs := [6]) (by kernel_rfl) (by simp) ?_
          refine AllReadyH.cons (by simp only [List.getElem?_toArray, List.getElem?_cons_succ, List.getElem?_cons_zero] <;> rfl) (fun K hK => ?_) AllReadyH.nil
          go_simp
          have hbn : Below w3.heap.size w3 (w3.alloc (.cells #[.int .u8 a.a0, .int .u8 a.a1, .int .u8 a.a2, .int .u8 a.a3] 24)) := (Below.refl _ _).alloc (Nat.le_refl _) _
          have HB4 := Lib.hid (HB3.out.trans (hbn.mono HB3.out.size))
          have HQ4 := Lib.hid (HQ3.out.below hbn)
          have HA4 : Hid ((w3.alloc (.cells #[.int .u8 a.a0, .int .u8 a.a1, .int .u8 a.a2, .int .u8 a.a3] 24)).heap[w3.heap.size]? = some (.cells a.cells.toArray 24 (0, 0))) := Lib.hid (heap_alloc_new w3 _)
          clear hbn
          generalize w3.alloc (.cells #[.int .u8 a.a0, .int .u8 a.a1, .int .u8 a.a2, .int .u8 a.a3] 24) = w4 at *
          refine hK.out _ _ ?_ (fun hHeld => ?_)
          · exact HS.out _ HB4.out
          clear hK K
          (try simp only [Act.put, List.setIfInBounds_toArray, List.set_cons_zero, List.set_cons_succ])
          refine wpAnyH_ready (rs := [7]) (by kernel_rfl) (by simp) ?_
          refine AllReadyH.cons (by simp only [List.getElem?_toArray, List.getElem?_cons_succ, List.getElem?_cons_zero] <;> rfl) (fun K hK => ?_) AllReadyH.nil
          go_simp
          go_at_call 9
          refine (find_more HQ4.out HA4.out HOK.out.1 HOK.out.2 hsz).mono ?_
          intro e wf hF
          obtain ⟨V1, V2, V3, rfl, hbf, hT⟩ := found1 hF
          have HBF := Lib.hid (HB4.out.trans (hbf.mono HB4.out.size))
          have HTF := Lib.hid hT
          clear hF hbf hT
          go_wp2_with fail
          refine hK.out _ _ ?_ (fun hHeld => ?_)
          · exact HS.out _ HBF.out
          clear hK K
          (try simp only [Act.put, List.setIfInBounds_toArray, List.set_cons_zero, List.set_cons_succ])
          refine wpAnyH_take (i := 8) (v := ?_) (by simp only [List.getElem?_toArray, List.getElem?_cons_succ, List.getElem?_cons_zero] <;> rfl) (by kernel_rfl) (by kernel_rfl) (by kernel_rfl) (by exact fun _ _ _ h => h) (Or.inl ⟨by rfl, ?_⟩) hHeld ?_
          rotate_left
          · intro w hSw; (try dsimp only at hSw); go_simp; (try with_reducible rfl)
          (try simp only [Act.put, List.setIfInBounds_toArray, List.set_cons_zero, List.set_cons_succ])
          refine wpAnyH_take (i := 9) (v := ?_) (by simp only [List.getElem?_toArray, List.getElem?_cons_succ, List.getElem?_cons_zero] <;> rfl) (by kernel_rfl) (by kernel_rfl) (by kernel_rfl) (by exact fun _ _ _ h => h) (Or.inl ⟨by rfl, ?_⟩) hHeld ?_
          rotate_left
          · intro w hSw; (try dsimp only at hSw); go_simp; (try with_reducible rfl)
          (try simp only [Act.put, List.setIfInBounds_toArray, List.set_cons_zero, List.set_cons_succ])
          refine wpAnyH_take (i := 10) (v := ?_) (by simp only [List.getElem?_toArray, List.getElem?_cons_succ, List.getElem?_cons_zero] <;> rfl) (by kernel_rfl) (by kernel_rfl) (by kernel_rfl) (by exact fun _ _ _ h => h) (Or.inl ⟨by rfl, ?_⟩) hHeld ?_
          rotate_left
          · intro w hSw; (try dsimp only at hSw); go_simp; (try with_reducible rfl)
          (try simp only [Act.put, List.setIfInBounds_toArray, List.set_cons_zero, List.set_cons_succ])
          refine wpAnyH_take (i := 11) (v := ?_) (by simp only [List.getElem?_toArray, List.getElem?_cons_succ, List.getElem?_cons_zero] <;> rfl) (by kernel_rfl) (by kernel_rfl) (by kernel_rfl) (by exact fun _ _ _ h => h) (Or.inl ⟨by rfl, ?_⟩) hHeld ?_
          rotate_left
          · intro w hSw; (try dsimp only at hSw); go_simp; (try with_reducible rfl)
          (try simp only [Act.put, List.setIfInBounds_toArray, List.set_cons_zero, List.set_cons_succ])
          refine wpAnyH_take (i := 12) (v := ?_) (by simp only [List.getElem?_toArray, List.getElem?_cons_succ, List.getElem?_cons_zero] <;> rfl) (by kernel_rfl) (by kernel_rfl) (by kernel_rfl) (by exact fun _ _ _ h => h) (Or.inl ⟨by rfl, ?_⟩) hHeld ?_
          rotate_left
          · intro w hSw; (try dsimp only at hSw); go_simp; (try with_reducible rfl)
          (try simp only [Act.put, List.setIfInBounds_toArray, List.set_cons_zero, List.set_cons_succ])
          refine wpAnyH_take (i := 13) (v := ?_) (by simp only [List.getElem?_toArray, List.getElem?_cons_succ, List.getElem?_cons_zero] <;> rfl) (by kernel_rfl) (by kernel_rfl) (by kernel_rfl) (by exact fun _ _ _ h => h) (Or.inl ⟨by rfl, ?_⟩) hHeld ?_
          rotate_left
          · intro w hSw; (try dsimp only at hSw); go_simp; (try with_reducible rfl)
          (try simp only [Act.put, List.setIfInBounds_toArray, List.set_cons_zero, List.set_cons_succ])
          refine wpAnyH_take (i := 14) (v := ?_) (by simp only [List.getElem?_toArray, List.getElem?_cons_succ, List.getElem?_cons_zero] <;> rfl) (by kernel_rfl) (by kernel_rfl) (by kernel_rfl) (by exact fun _ _ _ h => h) (Or.inl ⟨by rfl, ?_⟩) hHeld ?_
          rotate_left
          · intro w hSw; (try dsimp only at hSw); go_simp; (try with_reducible rfl)
          (try simp only [Act.put, List.setIfInBounds_toArray, List.set_cons_zero, List.set_cons_succ])
          refine wpAnyH_done (by kernel_rfl) ?_ _
          go_wp2_with fail
          go_meet
          exact Lib.hid ⟨HBF.out, HTF.out⟩
        · go_simp
          have hbn : Below w2.heap.size w2 (w2.alloc (.cells #[.int .u8 a.a0, .int .u8 a.a1, .int .u8 a.a2, .int .u8 a.a3] 24)) := (Below.refl _ _).alloc (Nat.le_refl _) _
          have HB3 := Lib.hid (HB2.out.trans (hbn.mono HB2.out.size))
          have HO3 := Lib.hid (HO2.out.below hbn)
          have HP3 := Lib.hid ((hbn.block _ (Array.getElem?_eq_some_iff.1 HP2.out).1).trans HP2.out)
          have HA3 : Hid ((w2.alloc (.cells #[.int .u8 a.a0, .int .u8 a.a1, .int .u8 a.a2, .int .u8 a.a3] 24)).heap[w2.heap.size]? = some (.cells a.cells.toArray 24 (0, 0))) := Lib.hid (heap_alloc_new w2 _)
          clear hbn
          generalize w2.alloc (.cells #[.int .u8 a.a0, .int .u8 a.a1, .int .u8 a.a2, .int .u8 a.a3] 24) = w3 at *
          refine hK.out _ _ ?_ (fun hHeld => ?_)
          · exact HS.out _ HB3.out
          clear hK K
          (try simp only [Act.put, List.setIfInBounds_toArray, List.set_cons_zero, List.set_cons_succ])
          refine wpAnyH_ready (rs := [4]) (by kernel_rfl) (by simp) ?_
          refine AllReadyH.cons (by simp only [List.getElem?_toArray, List.getElem?_cons_succ, List.getElem?_cons_zero] <;> rfl) (fun K hK => ?_) AllReadyH.nil
          obtain ⟨g, cap', w4, hr, ho, hbW, hfr⟩ := pfs_append HO3.out HB3.out.size hsz HP3.out
          have HB4 := Lib.hid (HB3.out.trans hbW)
          have HQ4 := Lib.hid ho
          have HA4 := Lib.hid (hfr _ _ _ HA3.out (by decide))
          clear ho hbW hfr
          rw [if_pos (by rfl)]
          refine wp_append_eq (.tmp 25) (.tmp 27) 22 22 rfl rfl rfl (hr _) ?_
          clear hr
          refine hK.out _ _ ?_ (fun hHeld => ?_)
          · exact HS.out _ HB4.out
          clear hK K
          (try simp only [Act.put, List.setIfInBounds_toArray, List.set_cons_zero, List.set_cons_succ])
          refine wpAnyH_ready (rs := [7]) (by kernel_rfl) (by simp) ?_
          refine AllReadyH.cons (by simp only [List.getElem?_toArray, List.getElem?_cons_succ, List.getElem?_cons_zero] <;> rfl) (fun K hK => ?_) AllReadyH.nil
          go_simp
          go_at_call 9
          refine (find_more HQ4.out HA4.out HOK.out.1 HOK.out.2 hsz).mono ?_
          intro e wf hF
          obtain ⟨V1, V2, V3, rfl, hbf, hT⟩ := found1 hF
          have HBF := Lib.hid (HB4.out.trans (hbf.mono HB4.out.size))
          have HTF := Lib.hid hT
          clear hF hbf hT
          go_wp2_with fail
          refine hK.out _ _ ?_ (fun hHeld => ?_)
          · exact HS.out _ HBF.out
          clear hK K
          (try simp only [Act.put, List.setIfInBounds_toArray, List.set_cons_zero, List.set_cons_succ])
          refine wpAnyH_take (i := 8) (v := ?_) (by simp only [List.getElem?_toArray, List.getElem?_cons_succ, List.getElem?_cons_zero] <;> rfl) (by kernel_rfl) (by kernel_rfl) (by kernel_rfl) (by exact fun _ _ _ h => h) (Or.inl ⟨by rfl, ?_⟩) hHeld ?_
          rotate_left
          · intro w hSw; (try dsimp only at hSw); go_simp; (try with_reducible rfl)
          (try simp only [Act.put, List.setIfInBounds_toArray, List.set_cons_zero, List.set_cons_succ])
          refine wpAnyH_take (i := 9) (v := ?_) (by simp only [List.getElem?_toArray, List.getElem?_cons_succ, List.getElem?_cons_zero] <;> rfl) (by kernel_rfl) (by kernel_rfl) (by kernel_rfl) (by exact fun _ _ _ h => h) (Or.inl ⟨by rfl, ?_⟩) hHeld ?_
          rotate_left
          · intro w hSw; (try dsimp only at hSw); go_simp; (try with_reducible rfl)
          (try simp only [Act.put, List.setIfInBounds_toArray, List.set_cons_zero, List.set_cons_succ])
          refine wpAnyH_take (i := 10) (v := ?_) (by simp only [List.getElem?_toArray, List.getElem?_cons_succ, List.getElem?_cons_zero] <;> rfl) (by kernel_rfl) (by kernel_rfl) (by kernel_rfl) (by exact fun _ _ _ h => h) (Or.inl ⟨by rfl, ?_⟩) hHeld ?_
          rotate_left
          · intro w hSw; (try dsimp only at hSw); go_simp; (try with_reducible rfl)
          (try simp only [Act.put, List.setIfInBounds_toArray, List.set_cons_zero, List.set_cons_succ])
          refine wpAnyH_take (i := 11) (v := ?_) (by simp only [List.getElem?_toArray, List.getElem?_cons_succ, List.getElem?_cons_zero] <;> rfl) (by kernel_rfl) (by kernel_rfl) (by kernel_rfl) (by exact fun _ _ _ h => h) (Or.inl ⟨by rfl, ?_⟩) hHeld ?_
          rotate_left
          · intro w hSw; (try dsimp only at hSw); go_simp; (try with_reducible rfl)
          (try simp only [Act.put, List.setIfInBounds_toArray, List.set_cons_zero, List.set_cons_succ])
          refine wpAnyH_take (i := 12) (v := ?_) (by simp only [List.getElem?_toArray, List.getElem?_cons_succ, List.getElem?_cons_zero] <;> rfl) (by kernel_rfl) (by kernel_rfl) (by kernel_rfl) (by exact fun _ _ _ h => h) (Or.inl ⟨by rfl, ?_⟩) hHeld ?_
          rotate_left
          · intro w hSw; (try dsimp only at hSw); go_simp; (try with_reducible rfl)
          (try simp only [Act.put, List.setIfInBounds_toArray, List.set_cons_zero, List.set_cons_succ])
          refine wpAnyH_take (i := 13) (v := ?_) (by simp only [List.getElem?_toArray, List.getElem?_cons_succ, List.getElem?_cons_zero] <;> rfl) (by kernel_rfl) (by kernel_rfl) (by kernel_rfl) (by exact fun _ _ _ h => h) (Or.inl ⟨by rfl, ?_⟩) hHeld ?_
          rotate_left
          · intro w hSw; (try dsimp only at hSw); go_simp; (try with_reducible rfl)
          (try simp only [Act.put, List.setIfInBounds_toArray, List.set_cons_zero, List.set_cons_succ])
          refine wpAnyH_take (i := 14) (v := ?_) (by simp only [List.getElem?_toArray, List.getElem?_cons_succ, List.getElem?_cons_zero] <;> rfl) (by kernel_rfl) (by kernel_rfl) (by kernel_rfl) (by exact fun _ _ _ h => h) (Or.inl ⟨by rfl, ?_⟩) hHeld ?_
          rotate_left
          · intro w hSw; (try dsimp only at hSw); go_simp; (try with_reducible rfl)
          (try simp only [Act.put, List.setIfInBounds_toArray, List.set_cons_zero, List.set_cons_succ])
          refine wpAnyH_done (by kernel_rfl) ?_ _
          go_wp2_with fail
          go_meet
          exact Lib.hid ⟨HBF.out, HTF.out⟩
      · go_simp
        have hbn : Below w1.heap.size w1 (w1.alloc (.cells #[.int .u8 a.a0, .int .u8 a.a1, .int .u8 a.a2, .int .u8 a.a3] 24)) := (Below.refl _ _).alloc (Nat.le_refl _) _
        have HB2 := Lib.hid (HB1.out.trans (hbn.mono HB1.out.size))
        have HO2 := Lib.hid (HO1.out.below hbn)
        have HA2 : Hid ((w1.alloc (.cells #[.int .u8 a.a0, .int .u8 a.a1, .int .u8 a.a2, .int .u8 a.a3] 24)).heap[w1.heap.size]? = some (.cells a.cells.toArray 24 (0, 0))) := Lib.hid (heap_alloc_new w1 _)
        clear hbn
        generalize w1.alloc (.cells #[.int .u8 a.a0, .int .u8 a.a1, .int .u8 a.a2, .int .u8 a.a3] 24) = w2 at *
        refine hK.out _ _ ?_ (fun hHeld => ?_)
        · exact HS.out _ HB2.out
        clear hK K
        (try simp only [Act.put, List.setIfInBounds_toArray, List.set_cons_zero, List.set_cons_succ])
        refine wpAnyH_ready (rs := [3]) (by kernel_rfl) (by simp) ?_
        refine AllReadyH.cons (by simp only [List.getElem?_toArray, List.getElem?_cons_succ, List.getElem?_cons_zero] <;> rfl) (fun K hK => ?_) AllReadyH.nil
        go_simp
        have hbn : Below w2.heap.size w2 (w2.alloc (.cells #[.int .u8 p.ad.a0, .int .u8 p.ad.a1, .int .u8 p.ad.a2, .int .u8 p.ad.a3, .int .i64 p.bits, .int .i64 p.led] 26)) := (Below.refl _ _).alloc (Nat.le_refl _) _
        have HB3 := Lib.hid (HB2.out.trans (hbn.mono HB2.out.size))
        have HO3 := Lib.hid (HO2.out.below hbn)
        have HA3 := Lib.hid ((hbn.block _ (Array.getElem?_eq_some_iff.1 HA2.out).1).trans HA2.out)
        have HP3 : Hid ((w2.alloc (.cells #[.int .u8 p.ad.a0, .int .u8 p.ad.a1, .int .u8 p.ad.a2, .int .u8 p.ad.a3, .int .i64 p.bits, .int .i64 p.led] 26)).heap[w2.heap.size]? = some (.cells p.cells.toArray 26 (0, 0))) := Lib.hid (heap_alloc_new w2 _)
        clear hbn
        generalize w2.alloc (.cells #[.int .u8 p.ad.a0, .int .u8 p.ad.a1, .int .u8 p.ad.a2, .int .u8 p.ad.a3, .int .i64 p.bits, .int .i64 p.led] 26) = w3 at *
        refine hK.out _ _ ?_ (fun hHeld => ?_)
        · exact HS.out _ HB3.out
        clear hK K
        (try simp only [Act.put, List.setIfInBounds_toArray, List.set_cons_zero, List.set_cons_succ])
        refine wpAnyH_ready (rs := [4]) (by kernel_rfl) (by simp) ?_
        refine AllReadyH.cons (by simp only [List.getElem?_toArray, List.getElem?_cons_succ, List.getElem?_cons_zero] <;> rfl) (fun K hK => ?_) AllReadyH.nil
        obtain ⟨g, cap', w4, hr, ho, hbW, hfr⟩ := pfs_append HO3.out HB3.out.size hsz HP3.out
        have HB4 := Lib.hid (HB3.out.trans hbW)
        have HQ4 := Lib.hid ho
        have HA4 := Lib.hid (hfr _ _ _ HA3.out (by decide))
        clear ho hbW hfr
        rw [if_pos (by rfl)]
        refine wp_append_eq (.tmp 25) (.tmp 27) 22 22 rfl rfl rfl (hr _) ?_
        clear hr
        refine hK.out _ _ ?_ (fun hHeld => ?_)
        · exact HS.out _ HB4.out
        clear hK K
        (try simp only [Act.put, List.setIfInBounds_toArray, List.set_cons_zero, List.set_cons_succ])
        refine wpAnyH_ready (rs := [7]) (by kernel_rfl) (by simp) ?_
        refine AllReadyH.cons (by simp only [List.getElem?_toArray, List.getElem?_cons_succ, List.getElem?_cons_zero] <;> rfl) (fun K hK => ?_) AllReadyH.nil
        go_simp
        go_at_call 9
        refine (find_more HQ4.out HA4.out HOK.out.1 HOK.out.2 hsz).mono ?_
        intro e wf hF
        obtain ⟨V1, V2, V3, rfl, hbf, hT⟩ := found1 hF
        have HBF := Lib.hid (HB4.out.trans (hbf.mono HB4.out.size))
        have HTF := Lib.hid hT
        clear hF hbf hT
        go_wp2_with fail
        refine hK.out _ _ ?_ (fun hHeld => ?_)
        · exact HS.out _ HBF.out
        clear hK K
        (try simp only [Act.put, List.setIfInBounds_toArray, List.set_cons_zero, List.set_cons_succ])
        refine wpAnyH_take (i := 8) (v := ?_) (by simp only [List.getElem?_toArray, List.getElem?_cons_succ, List.getElem?_cons_zero] <;> rfl) (by kernel_rfl) (by kernel_rfl) (by kernel_rfl) (by exact fun _ _ _ h => h) (Or.inl ⟨by rfl, ?_⟩) hHeld ?_
        rotate_left
        · intro w hSw; (try dsimp only at hSw); go_simp; (try with_reducible rfl)
        (try simp only [Act.put, List.setIfInBounds_toArray, List.set_cons_zero, List.set_cons_succ])
        refine wpAnyH_take (i := 9) (v := ?_) (by simp only [List.getElem?_toArray, List.getElem?_cons_succ, List.getElem?_cons_zero] <;> rfl) (by kernel_rfl) (by kernel_rfl) (by kernel_rfl) (by exact fun _ _ _ h => h) (Or.inl ⟨by rfl, ?_⟩) hHeld ?_
        rotate_left
        · intro w hSw; (try dsimp only at hSw); go_simp; (try with_reducible rfl)
        (try simp only [Act.put, List.setIfInBounds_toArray, List.set_cons_zero, List.set_cons_succ])
        refine wpAnyH_take (i := 10) (v := ?_) (by simp only [List.getElem?_toArray, List.getElem?_cons_succ, List.getElem?_cons_zero] <;> rfl) (by kernel_rfl) (by kernel_rfl) (by kernel_rfl) (by exact fun _ _ _ h => h) (Or.inl ⟨by rfl, ?_⟩) hHeld ?_
        rotate_left
        · intro w hSw; (try dsimp only at hSw); go_simp; (try with_reducible rfl)
        (try simp only [Act.put, List.setIfInBounds_toArray, List.set_cons_zero, List.set_cons_succ])
        refine wpAnyH_take (i := 11) (v := ?_) (by simp only [List.getElem?_toArray, List.getElem?_cons_succ, List.getElem?_cons_zero] <;> rfl) (by kernel_rfl) (by kernel_rfl) (by kernel_rfl) (by exact fun _ _ _ h => h) (Or.inl ⟨by rfl, ?_⟩) hHeld ?_
        rotate_left
        · intro w hSw; (try dsimp only at hSw); go_simp; (try with_reducible rfl)
        (try simp only [Act.put, List.setIfInBounds_toArray, List.set_cons_zero, List.set_cons_succ])
        refine wpAnyH_take (i := 12) (v := ?_) (by simp only [List.getElem?_toArray, List.getElem?_cons_succ, List.getElem?_cons_zero] <;> rfl) (by kernel_rfl) (by kernel_rfl) (by kernel_rfl) (by exact fun _ _ _ h => h) (Or.inl ⟨by rfl, ?_⟩) hHeld ?_
        rotate_left
        · intro w hSw; (try dsimp only at hSw); go_simp; (try with_reducible rfl)
        (try simp only [Act.put, List.setIfInBounds_toArray, List.set_cons_zero, List.set_cons_succ])
        refine wpAnyH_take (i := 13) (v := ?_) (by simp only [List.getElem?_toArray, List.getElem?_cons_succ, List.getElem?_cons_zero] <;> rfl) (by kernel_rfl) (by kernel_rfl) (by kernel_rfl) (by exact fun _ _ _ h => h) (Or.inl ⟨by rfl, ?_⟩) hHeld ?_
        rotate_left
        · intro w hSw; (try dsimp only at hSw); go_simp; (try with_reducible rfl)
        (try simp only [Act.put, List.setIfInBounds_toArray, List.set_cons_zero, List.set_cons_succ])
        refine wpAnyH_take (i := 14) (v := ?_) (by simp only [List.getElem?_toArray, List.getElem?_cons_succ, List.getElem?_cons_zero] <;> rfl) (by kernel_rfl) (by kernel_rfl) (by kernel_rfl) (by exact fun _ _ _ h => h) (Or.inl ⟨by rfl, ?_⟩) hHeld ?_
        rotate_left
        · intro w hSw; (try dsimp only at hSw); go_simp; (try with_reducible rfl)
        (try simp only [Act.put, List.setIfInBounds_toArray, List.set_cons_zero, List.set_cons_succ])
        refine wpAnyH_done (by kernel_rfl) ?_ _
        go_wp2_with fail
        go_meet
        exact Lib.hid ⟨HBF.out, HTF.out⟩
    · go_simp
      have hbn : Below w0.heap.size w0 (w0.alloc (.cells #[.int .u8 p.ad.a0, .int .u8 p.ad.a1, .int .u8 p.ad.a2, .int .u8 p.ad.a3, .int .i64 p.bits, .int .i64 p.led] 26)) := (Below.refl _ _).alloc (Nat.le_refl _) _
      have HB1 := Lib.hid (HB0.out.trans (hbn.mono HB0.out.size))
      have HP1 : Hid ((w0.alloc (.cells #[.int .u8 p.ad.a0, .int .u8 p.ad.a1, .int .u8 p.ad.a2, .int .u8 p.ad.a3, .int .i64 p.bits, .int .i64 p.led] 26)).heap[w0.heap.size]? = some (.cells p.cells.toArray 26 (0, 0))) := Lib.hid (heap_alloc_new w0 _)
      clear hbn
      generalize w0.alloc (.cells #[.int .u8 p.ad.a0, .int .u8 p.ad.a1, .int .u8 p.ad.a2, .int .u8 p.ad.a3, .int .i64 p.bits, .int .i64 p.led] 26) = w1 at *
      refine hK.out _ _ ?_ (fun hHeld => ?_)
      · exact HS.out _ HB1.out
      clear hK K
      (try simp only [Act.put, List.setIfInBounds_toArray, List.set_cons_zero, List.set_cons_succ])
      refine wpAnyH_ready (rs := [1, 6]) (by kernel_rfl) (by simp) ?_
      refine AllReadyH.cons (by simp only [List.getElem?_toArray, List.getElem?_cons_succ, List.getElem?_cons_zero] <;> rfl) (fun K hK => ?_) (AllReadyH.cons (by simp only [List.getElem?_toArray, List.getElem?_cons_succ, List.getElem?_cons_zero] <;> rfl) (fun K hK => ?_) AllReadyH.nil)
      · go_simp
        go_at_call 18
        refine (HCL.out _ HB1.out).mono ?_
        rintro e w2 ⟨v, rfl, ho, hbn⟩
        have HB2 := Lib.hid (HB1.out.trans (hbn.mono HB1.out.size))
        have HO2 := Lib.hid (own_mono ho HB1.out.size)
        have HP2 := Lib.hid ((hbn.block _ (Array.getElem?_eq_some_iff.1 HP1.out).1).trans HP1.out)
        clear ho hbn
        go_wp2_with fail
        refine hK.out _ _ ?_ (fun hHeld => ?_)
        · exact HS.out _ HB2.out
        clear hK K
        (try simp only [Act.put, List.setIfInBounds_toArray, List.set_cons_zero, List.set_cons_succ])
        refine wpAnyH_ready (rs := [4, 6]) (by kernel_rfl) (by simp) ?_
        refine AllReadyH.cons (by simp only [List.getElem?_toArray, List.getElem?_cons_succ, List.getElem?_cons_zero] <;> rfl) (fun K hK => ?_) (AllReadyH.cons (by simp only [List.getElem?_toArray, List.getElem?_cons_succ, List.getElem?_cons_zero] <;> rfl) (fun K hK => ?_) AllReadyH.nil)
        · obtain ⟨g, cap', w3, hr, ho, hbW, hfr⟩ := pfs_append HO2.out HB2.out.size hsz HP2.out
          have HB3 := Lib.hid (HB2.out.trans hbW)
          have HQ3 := Lib.hid ho
          clear ho hbW hfr
          rw [if_pos (by rfl)]
          refine wp_append_eq (.tmp 25) (.tmp 27) 22 22 rfl rfl rfl (hr _) ?_
          clear hr
          refine hK.out _ _ ?_ (fun hHeld => ?_)
          · exact HS.out _ HB3.out
          clear hK K
          (try simp only [Act.put, List.setIfInBounds_toArray, List.set_cons_zero, List.set_cons_succ])
          refine wpAnyH_ready (rs := [6]) (by kernel_rfl) (by simp) ?_
          refine AllReadyH.cons (by simp only [List.getElem?_toArray, List.getElem?_cons_succ, List.getElem?_cons_zero] <;> rfl) (fun K hK => ?_) AllReadyH.nil
          go_simp
          have hbn : Below w3.heap.size w3 (w3.alloc (.cells #[.int .u8 a.a0, .int .u8 a.a1, .int .u8 a.a2, .int .u8 a.a3] 24)) := (Below.refl _ _).alloc (Nat.le_refl _) _
          have HB4 := Lib.hid (HB3.out.trans (hbn.mono HB3.out.size))
          have HQ4 := Lib.hid (HQ3.out.below hbn)
          have HA4 : Hid ((w3.alloc (.cells #[.int .u8 a.a0, .int .u8 a.a1, .int .u8 a.a2, .int .u8 a.a3] 24)).heap[w3.heap.size]? = some (.cells a.cells.toArray 24 (0, 0))) := Lib.hid (heap_alloc_new w3 _)
          clear hbn
          generalize w3.alloc (.cells #[.int .u8 a.a0, .int .u8 a.a1, .int .u8 a.a2, .int .u8 a.a3] 24) = w4 at *
          refine hK.out _ _ ?_ (fun hHeld => ?_)
          · exact HS.out _ HB4.out
          clear hK K
          (try simp only [Act.put, List.setIfInBounds_toArray, List.set_cons_zero, List.set_cons_succ])
          refine wpAnyH_ready (rs := [7]) (by kernel_rfl) (by simp) ?_
          refine AllReadyH.cons (by simp only [List.getElem?_toArray, List.getElem?_cons_succ, List.getElem?_cons_zero] <;> rfl) (fun K hK => ?_) AllReadyH.nil
          go_simp
          go_at_call 9
          refine (find_more HQ4.out HA4.out HOK.out.1 HOK.out.2 hsz).mono ?_
          intro e wf hF
          obtain ⟨V1, V2, V3, rfl, hbf, hT⟩ := found1 hF
          have HBF := Lib.hid (HB4.out.trans (hbf.mono HB4.out.size))
          have HTF := Lib.hid hT
          clear hF hbf hT
          go_wp2_with fail
          refine hK.out _ _ ?_ (fun hHeld => ?_)
          · exact HS.out _ HBF.out
          clear hK K
          (try simp only [Act.put, List.setIfInBounds_toArray, List.set_cons_zero, List.set_cons_succ])
          refine wpAnyH_take (i := 8) (v := ?_) (by simp only [List.getElem?_toArray, List.getElem?_cons_succ, List.getElem?_cons_zero] <;> rfl) (by kernel_rfl) (by kernel_rfl) (by kernel_rfl) (by exact fun _ _ _ h => h) (Or.inl ⟨by rfl, ?_⟩) hHeld ?_
          rotate_left
          · intro w hSw; (try dsimp only at hSw); go_simp; (try with_reducible rfl)
          (try simp only [Act.put, List.setIfInBounds_toArray, List.set_cons_zero, List.set_cons_succ])
          refine wpAnyH_take (i := 9) (v := ?_) (by simp only [List.getElem?_toArray, List.getElem?_cons_succ, List.getElem?_cons_zero] <;> rfl) (by kernel_rfl) (by kernel_rfl) (by kernel_rfl) (by exact fun _ _ _ h => h) (Or.inl ⟨by rfl, ?_⟩) hHeld ?_
          rotate_left
          · intro w hSw; (try dsimp only at hSw); go_simp; (try with_reducible rfl)
          (try simp only [Act.put, List.setIfInBounds_toArray, List.set_cons_zero, List.set_cons_succ])
          refine wpAnyH_take (i := 10) (v := ?_) (by simp only [List.getElem?_toArray, List.getElem?_cons_succ, List.getElem?_cons_zero] <;> rfl) (by kernel_rfl) (by kernel_rfl) (by kernel_rfl) (by exact fun _ _ _ h => h) (Or.inl ⟨by rfl, ?_⟩) hHeld ?_
          rotate_left
          · intro w hSw; (try dsimp only at hSw); go_simp; (try with_reducible rfl)
          (try simp only [Act.put, List.setIfInBounds_toArray, List.set_cons_zero, List.set_cons_succ])
          refine wpAnyH_take (i := 11) (v := ?_) (by simp only [List.getElem?_toArray, List.getElem?_cons_succ, List.getElem?_cons_zero] <;> rfl) (by kernel_rfl) (by kernel_rfl) (by kernel_rfl) (by exact fun _ _ _ h => h) (Or.inl ⟨by rfl, ?_⟩) hHeld ?_
          rotate_left
          · intro w hSw; (try dsimp only at hSw); go_simp; (try with_reducible rfl)
          (try simp only [Act.put, List.setIfInBounds_toArray, List.set_cons_zero, List.set_cons_succ])
          refine wpAnyH_take (i := 12) (v := ?_) (by simp only [List.getElem?_toArray, List.getElem?_cons_succ, List.getElem?_cons_zero] <;> rfl) (by kernel_rfl) (by kernel_rfl) (by kernel_rfl) (by exact fun _ _ _ h => h) (Or.inl ⟨by rfl, ?_⟩) hHeld ?_
          rotate_left
          · intro w hSw; (try dsimp only at hSw); go_simp; (try with_reducible rfl)
          (try simp only [Act.put, List.setIfInBounds_toArray, List.set_cons_zero, List.set_cons_succ])
          refine wpAnyH_take (i := 13) (v := ?_) (by simp only [List.getElem?_toArray, List.getElem?_cons_succ, List.getElem?_cons_zero] <;> rfl) (by kernel_rfl) (by kernel_rfl) (by kernel_rfl) (by exact fun _ _ _ h => h) (Or.inl ⟨by rfl, ?_⟩) hHeld ?_
          rotate_left
          · intro w hSw; (try dsimp only at hSw); go_simp; (try with_reducible rfl)
          (try simp only [Act.put, List.setIfInBounds_toArray, List.set_cons_zero, List.set_cons_succ])
          refine wpAnyH_take (i := 14) (v := ?_) (by simp only [List.getElem?_toArray, List.getElem?_cons_succ, List.getElem?_cons_zero] <;> rfl) (by kernel_rfl) (by kernel_rfl) (by kernel_rfl) (by exact fun _ _ _ h => h) (Or.inl ⟨by rfl, ?_⟩) hHeld ?_
          rotate_left
          · intro w hSw; (try dsimp only at hSw); go_simp; (try with_reducible rfl)
          (try simp only [Act.put, List.setIfInBounds_toArray, List.set_cons_zero, List.set_cons_succ])
          refine wpAnyH_done (by kernel_rfl) ?_ _
          go_wp2_with fail
          go_meet
          exact Lib.hid ⟨HBF.out, HTF.out⟩
        · go_simp
          have hbn : Below w2.heap.size w2 (w2.alloc (.cells #[.int .u8 a.a0, .int .u8 a.a1, .int .u8 a.a2, .int .u8 a.a3] 24)) := (Below.refl _ _).alloc (Nat.le_refl _) _
          have HB3 := Lib.hid (HB2.out.trans (hbn.mono HB2.out.size))
          have HO3 := Lib.hid (HO2.out.below hbn)
          have HP3 := Lib.hid ((hbn.block _ (Array.getElem?_eq_some_iff.1 HP2.out).1).trans HP2.out)
          have HA3 : Hid ((w2.alloc (.cells #[.int .u8 a.a0, .int .u8 a.a1, .int .u8 a.a2, .int .u8 a.a3] 24)).heap[w2.heap.size]? = some (.cells a.cells.toArray 24 (0, 0))) := Lib.hid (heap_alloc_new w2 _)
          clear hbn
          generalize w2.alloc (.cells #[.int .u8 a.a0, .int .u8 a.a1, .int .u8 a.a2, .int .u8 a.a3] 24) = w3 at *
          refine hK.out _ _ ?_ (fun hHeld => ?_)
          · exact HS.out _ HB3.out
          clear hK K
          (try simp only [Act.put, List.setIfInBounds_toArray, List.set_cons_zero, List.set_cons_succ])
          refine wpAnyH_ready (rs := [4]) (by kernel_rfl) (by simp) ?_
          refine AllReadyH.cons (by simp only [List.getElem?_toArray, List.getElem?_cons_succ, List.getElem?_cons_zero] <;> rfl) (fun K hK => ?_) AllReadyH.nil
          obtain ⟨g, cap', w4, hr, ho, hbW, hfr⟩ := pfs_append HO3.out HB3.out.size hsz HP3.out
          have HB4 := Lib.hid (HB3.out.trans hbW)
          have HQ4 := Lib.hid ho
          have HA4 := Lib.hid (hfr _ _ _ HA3.out (by decide))
          clear ho hbW hfr
          rw [if_pos (by rfl)]
          refine wp_append_eq (.tmp 25) (.tmp 27) 22 22 rfl rfl rfl (hr _) ?_
          clear hr
          refine hK.out _ _ ?_ (fun hHeld => ?_)
          · exact HS.out _ HB4.out
          clear hK K
          (try simp only [Act.put, List.setIfInBounds_toArray, List.set_cons_zero, List.set_cons_succ])
          refine wpAnyH_ready (rs := [7]) (by kernel_rfl) (by simp) ?_
          refine AllReadyH.cons (by simp only [List.getElem?_toArray, List.getElem?_cons_succ, List.getElem?_cons_zero] <;> rfl) (fun K hK => ?_) AllReadyH.nil
          go_simp
          go_at_call 9
          refine (find_more HQ4.out HA4.out HOK.out.1 HOK.out.2 hsz).mono ?_
          intro e wf hF
          obtain ⟨V1, V2, V3, rfl, hbf, hT⟩ := found1 hF
          have HBF := Lib.hid (HB4.out.trans (hbf.mono HB4.out.size))
          have HTF := Lib.hid hT
          clear hF hbf hT
          go_wp2_with fail
          refine hK.out _ _ ?_ (fun hHeld => ?_)
          · exact HS.out _ HBF.out
          clear hK K
          (try simp only [Act.put, List.setIfInBounds_toArray, List.set_cons_zero, List.set_cons_succ])
          refine wpAnyH_take (i := 8) (v := ?_) (by simp only [List.getElem?_toArray, List.getElem?_cons_succ, List.getElem?_cons_zero] <;> rfl) (by kernel_rfl) (by kernel_rfl) (by kernel_rfl) (by exact fun _ _ _ h => h) (Or.inl ⟨by rfl, ?_⟩) hHeld ?_
          rotate_left
          · intro w hSw; (try dsimp only at hSw); go_simp; (try with_reducible rfl)
          (try simp only [Act.put, List.setIfInBounds_toArray, List.set_cons_zero, List.set_cons_succ])
          refine wpAnyH_take (i := 9) (v := ?_) (by simp only [List.getElem?_toArray, List.getElem?_cons_succ, List.getElem?_cons_zero] <;> rfl) (by kernel_rfl) (by kernel_rfl) (by kernel_rfl) (by exact fun _ _ _ h => h) (Or.inl ⟨by rfl, ?_⟩) hHeld ?_
          rotate_left
          · intro w hSw; (try dsimp only at hSw); go_simp; (try with_reducible rfl)
          (try simp only [Act.put, List.setIfInBounds_toArray, List.set_cons_zero, List.set_cons_succ])
          refine wpAnyH_take (i := 10) (v := ?_) (by simp only [List.getElem?_toArray, List.getElem?_cons_succ, List.getElem?_cons_zero] <;> rfl) (by kernel_rfl) (by kernel_rfl) (by kernel_rfl) (by exact fun _ _ _ h => h) (Or.inl ⟨by rfl, ?_⟩) hHeld ?_
          rotate_left
          · intro w hSw; (try dsimp only at hSw); go_simp; (try with_reducible rfl)
          (try simp only [Act.put, List.setIfInBounds_toArray, List.set_cons_zero, List.set_cons_succ])
          refine wpAnyH_take (i := 11) (v := ?_) (by simp only [List.getElem?_toArray, List.getElem?_cons_succ, List.getElem?_cons_zero] <;> rfl) (by kernel_rfl) (by kernel_rfl) (by kernel_rfl) (by exact fun _ _ _ h => h) (Or.inl ⟨by rfl, ?_⟩) hHeld ?_
          rotate_left
          · intro w hSw; (try dsimp only at hSw); go_simp; (try with_reducible rfl)
          (try simp only [Act.put, List.setIfInBounds_toArray, List.set_cons_zero, List.set_cons_succ])
          refine wpAnyH_take (i := 12) (v := ?_) (by simp only [List.getElem?_toArray, List.getElem?_cons_succ, List.getElem?_cons_zero] <;> rfl) (by kernel_rfl) (by kernel_rfl) (by kernel_rfl) (by exact fun _ _ _ h => h) (Or.inl ⟨by rfl, ?_⟩) hHeld ?_
          rotate_left
          · intro w hSw; (try dsimp only at hSw); go_simp; (try with_reducible rfl)
          (try simp only [Act.put, List.setIfInBounds_toArray, List.set_cons_zero, List.set_cons_succ])
          refine wpAnyH_take (i := 13) (v := ?_) (by simp only [List.getElem?_toArray, List.getElem?_cons_succ, List.getElem?_cons_zero] <;> rfl) (by kernel_rfl) (by kernel_rfl) (by kernel_rfl) (by exact fun _ _ _ h => h) (Or.inl ⟨by rfl, ?_⟩) hHeld ?_
          rotate_left
          · intro w hSw; (try dsimp only at hSw); go_simp; (try with_reducible rfl)
          (try simp only [Act.put, List.setIfInBounds_toArray, List.set_cons_zero, List.set_cons_succ])
          refine wpAnyH_take (i := 14) (v := ?_) (by simp only [List.getElem?_toArray, List.getElem?_cons_succ, List.getElem?_cons_zero] <;> rfl) (by kernel_rfl) (by kernel_rfl) (by kernel_rfl) (by exact fun _ _ _ h => h) (Or.inl ⟨by rfl, ?_⟩) hHeld ?_
          rotate_left
          · intro w hSw; (try dsimp only at hSw); go_simp; (try with_reducible rfl)
          (try simp only [Act.put, List.setIfInBounds_toArray, List.set_cons_zero, List.set_cons_succ])
          refine wpAnyH_done (by kernel_rfl) ?_ _
          go_wp2_with fail
          go_meet
          exact Lib.hid ⟨HBF.out, HTF.out⟩
      · go_simp
        have hbn : Below w1.heap.size w1 (w1.alloc (.cells #[.int .u8 a.a0, .int .u8 a.a1, .int .u8 a.a2, .int .u8 a.a3] 24)) := (Below.refl _ _).alloc (Nat.le_refl _) _
        have HB2 := Lib.hid (HB1.out.trans (hbn.mono HB1.out.size))
        have HP2 := Lib.hid ((hbn.block _ (Array.getElem?_eq_some_iff.1 HP1.out).1).trans HP1.out)
        have HA2 : Hid ((w1.alloc (.cells #[.int .u8 a.a0, .int .u8 a.a1, .int .u8 a.a2, .int .u8 a.a3] 24)).heap[w1.heap.size]? = some (.cells a.cells.toArray 24 (0, 0))) := Lib.hid (heap_alloc_new w1 _)
        clear hbn
        generalize w1.alloc (.cells #[.int .u8 a.a0, .int .u8 a.a1, .int .u8 a.a2, .int .u8 a.a3] 24) = w2 at *
        refine hK.out _ _ ?_ (fun hHeld => ?_)
        · exact HS.out _ HB2.out
        clear hK K
        (try simp only [Act.put, List.setIfInBounds_toArray, List.set_cons_zero, List.set_cons_succ])
        refine wpAnyH_ready (rs := [1]) (by kernel_rfl) (by simp) ?_
        refine AllReadyH.cons (by simp only [List.getElem?_toArray, List.getElem?_cons_succ, List.getElem?_cons_zero] <;> rfl) (fun K hK => ?_) AllReadyH.nil
        go_simp
        go_at_call 18
        refine (HCL.out _ HB2.out).mono ?_
        rintro e w3 ⟨v, rfl, ho, hbn⟩
        have HB3 := Lib.hid (HB2.out.trans (hbn.mono HB2.out.size))
        have HO3 := Lib.hid (own_mono ho HB2.out.size)
        have HP3 := Lib.hid ((hbn.block _ (Array.getElem?_eq_some_iff.1 HP2.out).1).trans HP2.out)
        have HA3 := Lib.hid ((hbn.block _ (Array.getElem?_eq_some_iff.1 HA2.out).1).trans HA2.out)
        clear ho hbn
        go_wp2_with fail
        refine hK.out _ _ ?_ (fun hHeld => ?_)
        · exact HS.out _ HB3.out
        clear hK K
        (try simp only [Act.put, List.setIfInBounds_toArray, List.set_cons_zero, List.set_cons_succ])
        refine wpAnyH_ready (rs := [4]) (by kernel_rfl) (by simp) ?_
        refine AllReadyH.cons (by simp only [List.getElem?_toArray, List.getElem?_cons_succ, List.getElem?_cons_zero] <;> rfl) (fun K hK => ?_) AllReadyH.nil
        obtain ⟨g, cap', w4, hr, ho, hbW, hfr⟩ := pfs_append HO3.out HB3.out.size hsz HP3.out
        have HB4 := Lib.hid (HB3.out.trans hbW)
        have HQ4 := Lib.hid ho
        have HA4 := Lib.hid (hfr _ _ _ HA3.out (by decide))
        clear ho hbW hfr
        rw [if_pos (by rfl)]
        refine wp_append_eq (.tmp 25) (.tmp 27) 22 22 rfl rfl rfl (hr _) ?_
        clear hr
        refine hK.out _ _ ?_ (fun hHeld => ?_)
        · exact HS.out _ HB4.out
        clear hK K
        (try simp only [Act.put, List.setIfInBounds_toArray, List.set_cons_zero, List.set_cons_succ])
        refine wpAnyH_ready (rs := [7]) (by kernel_rfl) (by simp) ?_
        refine AllReadyH.cons (by simp only [List.getElem?_toArray, List.getElem?_cons_succ, List.getElem?_cons_zero] <;> rfl) (fun K hK => ?_) AllReadyH.nil
        go_simp
        go_at_call 9
        refine (find_more HQ4.out HA4.out HOK.out.1 HOK.out.2 hsz).mono ?_
        intro e wf hF
        obtain ⟨V1, V2, V3, rfl, hbf, hT⟩ := found1 hF
        have HBF := Lib.hid (HB4.out.trans (hbf.mono HB4.out.size))
        have HTF := Lib.hid hT
        clear hF hbf hT
        go_wp2_with fail
        refine hK.out _ _ ?_ (fun hHeld => ?_)
        · exact HS.out _ HBF.out
        clear hK K
        (try simp only [Act.put, List.setIfInBounds_toArray, List.set_cons_zero, List.set_cons_succ])
        refine wpAnyH_take (i := 8) (v := ?_) (by simp only [List.getElem?_toArray, List.getElem?_cons_succ, List.getElem?_cons_zero] <;> rfl) (by kernel_rfl) (by kernel_rfl) (by kernel_rfl) (by exact fun _ _ _ h => h) (Or.inl ⟨by rfl, ?_⟩) hHeld ?_
        rotate_left
        · intro w hSw; (try dsimp only at hSw); go_simp; (try with_reducible rfl)
        (try simp only [Act.put, List.setIfInBounds_toArray, List.set_cons_zero, List.set_cons_succ])
        refine wpAnyH_take (i := 9) (v := ?_) (by simp only [List.getElem?_toArray, List.getElem?_cons_succ, List.getElem?_cons_zero] <;> rfl) (by kernel_rfl) (by kernel_rfl) (by kernel_rfl) (by exact fun _ _ _ h => h) (Or.inl ⟨by rfl, ?_⟩) hHeld ?_
        rotate_left
        · intro w hSw; (try dsimp only at hSw); go_simp; (try with_reducible rfl)
        (try simp only [Act.put, List.setIfInBounds_toArray, List.set_cons_zero, List.set_cons_succ])
        refine wpAnyH_take (i := 10) (v := ?_) (by simp only [List.getElem?_toArray, List.getElem?_cons_succ, List.getElem?_cons_zero] <;> rfl) (by kernel_rfl) (by kernel_rfl) (by kernel_rfl) (by exact fun _ _ _ h => h) (Or.inl ⟨by rfl, ?_⟩) hHeld ?_
        rotate_left
        · intro w hSw; (try dsimp only at hSw); go_simp; (try with_reducible rfl)
        (try simp only [Act.put, List.setIfInBounds_toArray, List.set_cons_zero, List.set_cons_succ])
        refine wpAnyH_take (i := 11) (v := ?_) (by simp only [List.getElem?_toArray, List.getElem?_cons_succ, List.getElem?_cons_zero] <;> rfl) (by kernel_rfl) (by kernel_rfl) (by kernel_rfl) (by exact fun _ _ _ h => h) (Or.inl ⟨by rfl, ?_⟩) hHeld ?_
        rotate_left
        · intro w hSw; (try dsimp only at hSw); go_simp; (try with_reducible rfl)
        (try simp only [Act.put, List.setIfInBounds_toArray, List.set_cons_zero, List.set_cons_succ])
        refine wpAnyH_take (i := 12) (v := ?_) (by simp only [List.getElem?_toArray, List.getElem?_cons_succ, List.getElem?_cons_zero] <;> rfl) (by kernel_rfl) (by kernel_rfl) (by kernel_rfl) (by exact fun _ _ _ h => h) (Or.inl ⟨by rfl, ?_⟩) hHeld ?_
        rotate_left
        · intro w hSw; (try dsimp only at hSw); go_simp; (try with_reducible rfl)
        (try simp only [Act.put, List.setIfInBounds_toArray, List.set_cons_zero, List.set_cons_succ])
        refine wpAnyH_take (i := 13) (v := ?_) (by simp only [List.getElem?_toArray, List.getElem?_cons_succ, List.getElem?_cons_zero] <;> rfl) (by kernel_rfl) (by kernel_rfl) (by kernel_rfl) (by exact fun _ _ _ h => h) (Or.inl ⟨by rfl, ?_⟩) hHeld ?_
        rotate_left
        · intro w hSw; (try dsimp only at hSw); go_simp; (try with_reducible rfl)
        (try simp only [Act.put, List.setIfInBounds_toArray, List.set_cons_zero, List.set_cons_succ])
        refine wpAnyH_take (i := 14) (v := ?_) (by simp only [List.getElem?_toArray, List.getElem?_cons_succ, List.getElem?_cons_zero] <;> rfl) (by kernel_rfl) (by kernel_rfl) (by kernel_rfl) (by exact fun _ _ _ h => h) (Or.inl ⟨by rfl, ?_⟩) hHeld ?_
        rotate_left
        · intro w hSw; (try dsimp only at hSw); go_simp; (try with_reducible rfl)
        (try simp only [Act.put, List.setIfInBounds_toArray, List.set_cons_zero, List.set_cons_succ])
        refine wpAnyH_done (by kernel_rfl) ?_ _
        go_wp2_with fail
        go_meet
        exact Lib.hid ⟨HBF.out, HTF.out⟩
    · go_simp
      have hbn : Below w0.heap.size w0 (w0.alloc (.cells #[.int .u8 a.a0, .int .u8 a.a1, .int .u8 a.a2, .int .u8 a.a3] 24)) := (Below.refl _ _).alloc (Nat.le_refl _) _
      have HB1 := Lib.hid (HB0.out.trans (hbn.mono HB0.out.size))
      have HA1 : Hid ((w0.alloc (.cells #[.int .u8 a.a0, .int .u8 a.a1, .int .u8 a.a2, .int .u8 a.a3] 24)).heap[w0.heap.size]? = some (.cells a.cells.toArray 24 (0, 0))) := Lib.hid (heap_alloc_new w0 _)
      clear hbn
      generalize w0.alloc (.cells #[.int .u8 a.a0, .int .u8 a.a1, .int .u8 a.a2, .int .u8 a.a3] 24) = w1 at *
      refine hK.out _ _ ?_ (fun hHeld => ?_)
      · exact HS.out _ HB1.out
      clear hK K
      (try simp only [Act.put, List.setIfInBounds_toArray, List.set_cons_zero, List.set_cons_succ])
      refine wpAnyH_ready (rs := [1, 3]) (by kernel_rfl) (by simp) ?_
      refine AllReadyH.cons (by simp only [List.getElem?_toArray, List.getElem?_cons_succ, List.getElem?_cons_zero] <;> rfl) (fun K hK => ?_) (AllReadyH.cons (by simp only [List.getElem?_toArray, List.getElem?_cons_succ, List.getElem?_cons_zero] <;> rfl) (fun K hK => ?_) AllReadyH.nil)
      · go_simp
        go_at_call 18
        refine (HCL.out _ HB1.out).mono ?_
        rintro e w2 ⟨v, rfl, ho, hbn⟩
        have HB2 := Lib.hid (HB1.out.trans (hbn.mono HB1.out.size))
        have HO2 := Lib.hid (own_mono ho HB1.out.size)
        have HA2 := Lib.hid ((hbn.block _ (Array.getElem?_eq_some_iff.1 HA1.out).1).trans HA1.out)
        clear ho hbn
        go_wp2_with fail
        refine hK.out _ _ ?_ (fun hHeld => ?_)
        · exact HS.out _ HB2.out
        clear hK K
        (try simp only [Act.put, List.setIfInBounds_toArray, List.set_cons_zero, List.set_cons_succ])
        refine wpAnyH_ready (rs := [3]) (by kernel_rfl) (by simp) ?_
        refine AllReadyH.cons (by simp only [List.getElem?_toArray, List.getElem?_cons_succ, List.getElem?_cons_zero] <;> rfl) (fun K hK => ?_) AllReadyH.nil
        go_simp
        have hbn : Below w2.heap.size w2 (w2.alloc (.cells #[.int .u8 p.ad.a0, .int .u8 p.ad.a1, .int .u8 p.ad.a2, .int .u8 p.ad.a3, .int .i64 p.bits, .int .i64 p.led] 26)) := (Below.refl _ _).alloc (Nat.le_refl _) _
        have HB3 := Lib.hid (HB2.out.trans (hbn.mono HB2.out.size))
        have HO3 := Lib.hid (HO2.out.below hbn)
        have HA3 := Lib.hid ((hbn.block _ (Array.getElem?_eq_some_iff.1 HA2.out).1).trans HA2.out)
        have HP3 : Hid ((w2.alloc (.cells #[.int .u8 p.ad.a0, .int .u8 p.ad.a1, .int .u8 p.ad.a2, .int .u8 p.ad.a3, .int .i64 p.bits, .int .i64 p.led] 26)).heap[w2.heap.size]? = some (.cells p.cells.toArray 26 (0, 0))) := Lib.hid (heap_alloc_new w2 _)
        clear hbn
        generalize w2.alloc (.cells #[.int .u8 p.ad.a0, .int .u8 p.ad.a1, .int .u8 p.ad.a2, .int .u8 p.ad.a3, .int .i64 p.bits, .int .i64 p.led] 26) = w3 at *
        refine hK.out _ _ ?_ (fun hHeld => ?_)
        · exact HS.out _ HB3.out
        clear hK K
        (try simp only [Act.put, List.setIfInBounds_toArray, List.set_cons_zero, List.set_cons_succ])
        refine wpAnyH_ready (rs := [4]) (by kernel_rfl) (by simp) ?_
        refine AllReadyH.cons (by simp only [List.getElem?_toArray, List.getElem?_cons_succ, List.getElem?_cons_zero] <;> rfl) (fun K hK => ?_) AllReadyH.nil
        obtain ⟨g, cap', w4, hr, ho, hbW, hfr⟩ := pfs_append HO3.out HB3.out.size hsz HP3.out
        have HB4 := Lib.hid (HB3.out.trans hbW)
        have HQ4 := Lib.hid ho
        have HA4 := Lib.hid (hfr _ _ _ HA3.out (by decide))
        clear ho hbW hfr
        rw [if_pos (by rfl)]
        refine wp_append_eq (.tmp 25) (.tmp 27) 22 22 rfl rfl rfl (hr _) ?_
        clear hr
        refine hK.out _ _ ?_ (fun hHeld => ?_)
        · exact HS.out _ HB4.out
        clear hK K
        (try simp only [Act.put, List.setIfInBounds_toArray, List.set_cons_zero, List.set_cons_succ])
        refine wpAnyH_ready (rs := [7]) (by kernel_rfl) (by simp) ?_
        refine AllReadyH.cons (by simp only [List.getElem?_toArray, List.getElem?_cons_succ, List.getElem?_cons_zero] <;> rfl) (fun K hK => ?_) AllReadyH.nil
        go_simp
        go_at_call 9
        refine (find_more HQ4.out HA4.out HOK.out.1 HOK.out.2 hsz).mono ?_
        intro e wf hF
        obtain ⟨V1, V2, V3, rfl, hbf, hT⟩ := found1 hF
        have HBF := Lib.hid (HB4.out.trans (hbf.mono HB4.out.size))
        have HTF := Lib.hid hT
        clear hF hbf hT
        go_wp2_with fail
        refine hK.out _ _ ?_ (fun hHeld => ?_)
        · exact HS.out _ HBF.out
        clear hK K
        (try simp only [Act.put, List.setIfInBounds_toArray, List.set_cons_zero, List.set_cons_succ])
        refine wpAnyH_take (i := 8) (v := ?_) (by simp only [List.getElem?_toArray, List.getElem?_cons_succ, List.getElem?_cons_zero] <;> rfl) (by kernel_rfl) (by kernel_rfl) (by kernel_rfl) (by exact fun _ _ _ h => h) (Or.inl ⟨by rfl, ?_⟩) hHeld ?_
        rotate_left
        · intro w hSw; (try dsimp only at hSw); go_simp; (try with_reducible rfl)
        (try simp only [Act.put, List.setIfInBounds_toArray, List.set_cons_zero, List.set_cons_succ])
        refine wpAnyH_take (i := 9) (v := ?_) (by simp only [List.getElem?_toArray, List.getElem?_cons_succ, List.getElem?_cons_zero] <;> rfl) (by kernel_rfl) (by kernel_rfl) (by kernel_rfl) (by exact fun _ _ _ h => h) (Or.inl ⟨by rfl, ?_⟩) hHeld ?_
        rotate_left
        · intro w hSw; (try dsimp only at hSw); go_simp; (try with_reducible rfl)
        (try simp only [Act.put, List.setIfInBounds_toArray, List.set_cons_zero, List.set_cons_succ])
        refine wpAnyH_take (i := 10) (v := ?_) (by simp only [List.getElem?_toArray, List.getElem?_cons_succ, List.getElem?_cons_zero] <;> rfl) (by kernel_rfl) (by kernel_rfl) (by kernel_rfl) (by exact fun _ _ _ h => h) (Or.inl ⟨by rfl, ?_⟩) hHeld ?_
        rotate_left
        · intro w hSw; (try dsimp only at hSw); go_simp; (try with_reducible rfl)
        (try simp only [Act.put, List.setIfInBounds_toArray, List.set_cons_zero, List.set_cons_succ])
        refine wpAnyH_take (i := 11) (v := ?_) (by simp only [List.getElem?_toArray, List.getElem?_cons_succ, List.getElem?_cons_zero] <;> rfl) (by kernel_rfl) (by kernel_rfl) (by kernel_rfl) (by exact fun _ _ _ h => h) (Or.inl ⟨by rfl, ?_⟩) hHeld ?_
        rotate_left
        · intro w hSw; (try dsimp only at hSw); go_simp; (try with_reducible rfl)
        (try simp only [Act.put, List.setIfInBounds_toArray, List.set_cons_zero, List.set_cons_succ])
        refine wpAnyH_take (i := 12) (v := ?_) (by simp only [List.getElem?_toArray, List.getElem?_cons_succ, List.getElem?_cons_zero] <;> rfl) (by kernel_rfl) (by kernel_rfl) (by kernel_rfl) (by exact fun _ _ _ h => h) (Or.inl ⟨by rfl, ?_⟩) hHeld ?_
        rotate_left
        · intro w hSw; (try dsimp only at hSw); go_simp; (try with_reducible rfl)
        (try simp only [Act.put, List.setIfInBounds_toArray, List.set_cons_zero, List.set_cons_succ])
        refine wpAnyH_take (i := 13) (v := ?_) (by simp only [List.getElem?_toArray, List.getElem?_cons_succ, List.getElem?_cons_zero] <;> rfl) (by kernel_rfl) (by kernel_rfl) (by kernel_rfl) (by exact fun _ _ _ h => h) (Or.inl ⟨by rfl, ?_⟩) hHeld ?_
        rotate_left
        · intro w hSw; (try dsimp only at hSw); go_simp; (try with_reducible rfl)
        (try simp only [Act.put, List.setIfInBounds_toArray, List.set_cons_zero, List.set_cons_succ])
        refine wpAnyH_take (i := 14) (v := ?_) (by simp only [List.getElem?_toArray, List.getElem?_cons_succ, List.getElem?_cons_zero] <;> rfl) (by kernel_rfl) (by kernel_rfl) (by kernel_rfl) (by exact fun _ _ _ h => h) (Or.inl ⟨by rfl, ?_⟩) hHeld ?_
        rotate_left
        · intro w hSw; (try dsimp only at hSw); go_simp; (try with_reducible rfl)
        (try simp only [Act.put, List.setIfInBounds_toArray, List.set_cons_zero, List.set_cons_succ])
        refine wpAnyH_done (by kernel_rfl) ?_ _
        go_wp2_with fail
        go_meet
        exact Lib.hid ⟨HBF.out, HTF.out⟩
      · go_simp
        have hbn : Below w1.heap.size w1 (w1.alloc (.cells #[.int .u8 p.ad.a0, .int .u8 p.ad.a1, .int .u8 p.ad.a2, .int .u8 p.ad.a3, .int .i64 p.bits, .int .i64 p.led] 26)) := (Below.refl _ _).alloc (Nat.le_refl _) _
        have HB2 := Lib.hid (HB1.out.trans (hbn.mono HB1.out.size))
        have HA2 := Lib.hid ((hbn.block _ (Array.getElem?_eq_some_iff.1 HA1.out).1).trans HA1.out)
        have HP2 : Hid ((w1.alloc (.cells #[.int .u8 p.ad.a0, .int .u8 p.ad.a1, .int .u8 p.ad.a2, .int .u8 p.ad.a3, .int .i64 p.bits, .int .i64 p.led] 26)).heap[w1.heap.size]? = some (.cells p.cells.toArray 26 (0, 0))) := Lib.hid (heap_alloc_new w1 _)
        clear hbn
        generalize w1.alloc (.cells #[.int .u8 p.ad.a0, .int .u8 p.ad.a1, .int .u8 p.ad.a2, .int .u8 p.ad.a3, .int .i64 p.bits, .int .i64 p.led] 26) = w2 at *
        refine hK.out _ _ ?_ (fun hHeld => ?_)
        · exact HS.out _ HB2.out
        clear hK K
        (try simp only [Act.put, List.setIfInBounds_toArray, List.set_cons_zero, List.set_cons_succ])
        refine wpAnyH_ready (rs := [1]) (by kernel_rfl) (by simp) ?_
        refine AllReadyH.cons (by simp only [List.getElem?_toArray, List.getElem?_cons_succ, List.getElem?_cons_zero] <;> rfl) (fun K hK => ?_) AllReadyH.nil
        go_simp
        go_at_call 18
        refine (HCL.out _ HB2.out).mono ?_
        rintro e w3 ⟨v, rfl, ho, hbn⟩
        have HB3 := Lib.hid (HB2.out.trans (hbn.mono HB2.out.size))
        have HO3 := Lib.hid (own_mono ho HB2.out.size)
        have HA3 := Lib.hid ((hbn.block _ (Array.getElem?_eq_some_iff.1 HA2.out).1).trans HA2.out)
        have HP3 := Lib.hid ((hbn.block _ (Array.getElem?_eq_some_iff.1 HP2.out).1).trans HP2.out)
        clear ho hbn
        go_wp2_with fail
        refine hK.out _ _ ?_ (fun hHeld => ?_)
        · exact HS.out _ HB3.out
        clear hK K
        (try simp only [Act.put, List.setIfInBounds_toArray, List.set_cons_zero, List.set_cons_succ])
        refine wpAnyH_ready (rs := [4]) (by kernel_rfl) (by simp) ?_
        refine AllReadyH.cons (by simp only [List.getElem?_toArray, List.getElem?_cons_succ, List.getElem?_cons_zero] <;> rfl) (fun K hK => ?_) AllReadyH.nil
        obtain ⟨g, cap', w4, hr, ho, hbW, hfr⟩ := pfs_append HO3.out HB3.out.size hsz HP3.out
        have HB4 := Lib.hid (HB3.out.trans hbW)
        have HQ4 := Lib.hid ho
        have HA4 := Lib.hid (hfr _ _ _ HA3.out (by decide))
        clear ho hbW hfr
        rw [if_pos (by rfl)]
        refine wp_append_eq (.tmp 25) (.tmp 27) 22 22 rfl rfl rfl (hr _) ?_
        clear hr
        refine hK.out _ _ ?_ (fun hHeld => ?_)
        · exact HS.out _ HB4.out
        clear hK K
        (try simp only [Act.put, List.setIfInBounds_toArray, List.set_cons_zero, List.set_cons_succ])
        refine wpAnyH_ready (rs := [7]) (by kernel_rfl) (by simp) ?_
        refine AllReadyH.cons (by simp only [List.getElem?_toArray, List.getElem?_cons_succ, List.getElem?_cons_zero] <;> rfl) (fun K hK => ?_) AllReadyH.nil
        go_simp
        go_at_call 9
        refine (find_more HQ4.out HA4.out HOK.out.1 HOK.out.2 hsz).mono ?_
        intro e wf hF
        obtain ⟨V1, V2, V3, rfl, hbf, hT⟩ := found1 hF
        have HBF := Lib.hid (HB4.out.trans (hbf.mono HB4.out.size))
        have HTF := Lib.hid hT
        clear hF hbf hT
        go_wp2_with fail
        refine hK.out _ _ ?_ (fun hHeld => ?_)
        · exact HS.out _ HBF.out
        clear hK K
        (try simp only [Act.put, List.setIfInBounds_toArray, List.set_cons_zero, List.set_cons_succ])
        refine wpAnyH_take (i := 8) (v := ?_) (by simp only [List.getElem?_toArray, List.getElem?_cons_succ, List.getElem?_cons_zero] <;> rfl) (by kernel_rfl) (by kernel_rfl) (by kernel_rfl) (by exact fun _ _ _ h => h) (Or.inl ⟨by rfl, ?_⟩) hHeld ?_
        rotate_left
        · intro w hSw; (try dsimp only at hSw); go_simp; (try with_reducible rfl)
        (try simp only [Act.put, List.setIfInBounds_toArray, List.set_cons_zero, List.set_cons_succ])
        refine wpAnyH_take (i := 9) (v := ?_) (by simp only [List.getElem?_toArray, List.getElem?_cons_succ, List.getElem?_cons_zero] <;> rfl) (by kernel_rfl) (by kernel_rfl) (by kernel_rfl) (by exact fun _ _ _ h => h) (Or.inl ⟨by rfl, ?_⟩) hHeld ?_
        rotate_left
        · intro w hSw; (try dsimp only at hSw); go_simp; (try with_reducible rfl)
        (try simp only [Act.put, List.setIfInBounds_toArray, List.set_cons_zero, List.set_cons_succ])
        refine wpAnyH_take (i := 10) (v := ?_) (by simp only [List.getElem?_toArray, List.getElem?_cons_succ, List.getElem?_cons_zero] <;> rfl) (by kernel_rfl) (by kernel_rfl) (by kernel_rfl) (by exact fun _ _ _ h => h) (Or.inl ⟨by rfl, ?_⟩) hHeld ?_
        rotate_left
        · intro w hSw; (try dsimp only at hSw); go_simp; (try with_reducible rfl)
        (try simp only [Act.put, List.setIfInBounds_toArray, List.set_cons_zero, List.set_cons_succ])
        refine wpAnyH_take (i := 11) (v := ?_) (by simp only [List.getElem?_toArray, List.getElem?_cons_succ, List.getElem?_cons_zero] <;> rfl) (by kernel_rfl) (by kernel_rfl) (by kernel_rfl) (by exact fun _ _ _ h => h) (Or.inl ⟨by rfl, ?_⟩) hHeld ?_
        rotate_left
        · intro w hSw; (try dsimp only at hSw); go_simp; (try with_reducible rfl)
        (try simp only [Act.put, List.setIfInBounds_toArray, List.set_cons_zero, List.set_cons_succ])
        refine wpAnyH_take (i := 12) (v := ?_) (by simp only [List.getElem?_toArray, List.getElem?_cons_succ, List.getElem?_cons_zero] <;> rfl) (by kernel_rfl) (by kernel_rfl) (by kernel_rfl) (by exact fun _ _ _ h => h) (Or.inl ⟨by rfl, ?_⟩) hHeld ?_
        rotate_left
        · intro w hSw; (try dsimp only at hSw); go_simp; (try with_reducible rfl)
        (try simp only [Act.put, List.setIfInBounds_toArray, List.set_cons_zero, List.set_cons_succ])
        refine wpAnyH_take (i := 13) (v := ?_) (by simp only [List.getElem?_toArray, List.getElem?_cons_succ, List.getElem?_cons_zero] <;> rfl) (by kernel_rfl) (by kernel_rfl) (by kernel_rfl) (by exact fun _ _ _ h => h) (Or.inl ⟨by rfl, ?_⟩) hHeld ?_
        rotate_left
        · intro w hSw; (try dsimp only at hSw); go_simp; (try with_reducible rfl)
        (try simp only [Act.put, List.setIfInBounds_toArray, List.set_cons_zero, List.set_cons_succ])
        refine wpAnyH_take (i := 14) (v := ?_) (by simp only [List.getElem?_toArray, List.getElem?_cons_succ, List.getElem?_cons_zero] <;> rfl) (by kernel_rfl) (by kernel_rfl) (by kernel_rfl) (by exact fun _ _ _ h => h) (Or.inl ⟨by rfl, ?_⟩) hHeld ?_
        rotate_left
        · intro w hSw; (try dsimp only at hSw); go_simp; (try with_reducible rfl)
        (try simp only [Act.put, List.setIfInBounds_toArray, List.set_cons_zero, List.set_cons_succ])
        refine wpAnyH_done (by kernel_rfl) ?_ _
        go_wp2_with fail
        go_meet
        exact Lib.hid ⟨HBF.out, HTF.out⟩
  case rest =>
    obtain ⟨hbx, hTx⟩ := hcut.out
    obtain ⟨⟨x0, x1, x2, x3, x4, x5⟩, z0, z1, z2, z3⟩ := HS.out wc hbx
    have HBX := Lib.hid (HBW.out wc hbx)
    have HTM2 := Lib.hid (HTM.out.below hbx)
    have HTX := Lib.hid hTx
    clear hcut hbx hTx HTM HS HBW HCL HC HOK
    rcases HTM2.out with ⟨h0, rfl, rfl, rfl⟩ | ⟨h0, g1, k1, rfl, rfl, rfl, c1, c2⟩
    · have h0' : (wrong ps != 0) = true := by simpa using h0
      clear h0 HTM2 HMI
      generalize wrong ps = E at *
      rcases HTX.out with ⟨h2, rfl, rfl, rfl⟩ | ⟨h2, g2, k2, rfl, rfl, rfl, c3, c4⟩
      · generalize wrong (ps ++ [p]) = E2 at *
        clear h2 HTX
        go_wp2_with fail
        go_ret
        exact ⟨rfl, HBX.out⟩
      · clear h2 HTX
        go_wp2_with fail
        go_ret
        exact ⟨rfl, HBX.out⟩
    · clear h0 HTM2
      rcases HTX.out with ⟨h2, rfl, rfl, rfl⟩ | ⟨h2, g2, k2, rfl, rfl, rfl, c3, c4⟩
      · have h2' : (wrong (ps ++ [p]) != 0) = true := by simpa using h2
        clear h2 HTX HMI
        generalize wrong (ps ++ [p]) = E2 at *
        go_wp2_with fail
        go_ret
        exact ⟨rfl, HBX.out⟩
      · clear h2 HTX
        have HCC := Lib.hid (And.intro c1 (And.intro c3 c4))
        clear c1 c2 c3 c4
        go_wp2_with fail
        refine (HWP.out _).mono ?_
        rintro e w9 ⟨rfl, hb9⟩
        obtain ⟨c1, c3, c4⟩ := HCC.out
        replace c1 := (hb9.cell (p := ⟨g1, 0, none⟩) (World.block_lt_of_cell? _ _ c1)).trans c1
        replace c3 := (hb9.cell (p := ⟨g2, 0, none⟩) (World.block_lt_of_cell? _ _ c3)).trans c3
        replace c4 := (hb9.cell (p := ⟨k2, 0, none⟩) (World.block_lt_of_cell? _ _ c4)).trans c4
        have c5 := (hb9.cell (p := ⟨w.heap.size, 5, none⟩) (World.block_lt_of_cell? _ _ x5)).trans x5
        have HB9 := Lib.hid (HBX.out.trans (hb9.mono HBX.out.size))
        clear HCC hb9 x0 x1 x2 x3 x4 x5 z0 z1 z2 z3 HWP HBX
        obtain ⟨i1, i2⟩ := HMI.out
        clear HMI
        generalize inB a.num p = IB at *
        generalize lookTo a.num ps = X at *
        generalize lookTo a.num (ps ++ [p]) = Y at *
        generalize lookIs a.num (ps ++ [p]) = Z at *
        cases IB with
        | false =>
          obtain rfl := i2 rfl
          clear i1 i2
          go_wp2_with fail
          go_quiet (fail)
          go_wp2_with fail
          go_ret
          exact ⟨rfl, below_drewN HB9.out _⟩
        | true =>
          obtain ⟨rfl, hy⟩ := i1 rfl
          clear i1 i2
          by_cases cy : Y = X
          · subst cy
            clear hy
            go_wp2_with fail
            go_quiet (fail)
            go_wp2_with fail
            go_ret
            exact ⟨rfl, below_drewN HB9.out _⟩
          · have hy2 : Y = p.led := by
              rcases hy with h | h
              · exact absurd h cy
              · exact h
            have hyx : (Y == X) = false := by simpa using cy
            rw [← hy2] at c5
            clear hy hy2 cy
            go_wp2_with fail
            go_quiet (fail)
            go_wp2_with fail
            go_ret
            exact ⟨rfl, below_drewN HB9.out _⟩
end Go.Proofs.Ytcadjgmglaimdaa
