/- curve.Backlog, curve.Chain. -/
import Derived.Test.YtdlmiiekcpbdcaaCv2
namespace Go.Proofs.Ytdlmiiekcpbdcaa
open Go.RowKit Go.Maps

theorem delay_err (b r l s : Int) : (delay b r l s).2 ≠ 0 → (delay b r l s).1 = 0 := by
  have hw := delay_way b r l s
  generalize delay b r l s = D at *
  intro h
  cases hw with
  | bad => rfl
  | zero => rfl
  | none => rfl
  | some => exact absurd rfl h
theorem delay_ok {b r l s : Int} (h : (delay b r l s).2 = 0) : wrong4 b r l s = false ∧ r ≤ s := by
  have hw := delay_way b r l s
  generalize delay b r l s = D at *
  cases hw with
  | bad => cases h
  | zero h0 h1 => exact ⟨h0, by have := wrong4_false.1 h0; omega⟩
  | none => cases h
  | some h0 _ _ h1 => exact ⟨h0, h1⟩

set_option maxRecDepth 100000 in
set_option maxHeartbeats 4000000 in
theorem backlog_any (b r l s : Int) (w : World) : Calls Try.prog 11 #[.agg #[.int .i64 b, .int .i64 r], .agg #[.int .i64 l, .int .i64 s]] w fun e w' => e = .returned (.tuple #[.int .i64 (backlog b r l s).1, .int .i64 (backlog b r l s).2]) ∧ Below w.heap.size w w' := by
  have HX := Lib.hid (laid2_at w b r l s)
  have H0 := Lib.hid (fun w => delay_any b r l s w)
  unfold backlog
  by_cases h : (delay b r l s).2 = 0
  · have hw := wrong4_false.1 (delay_ok h).1
    rw [if_pos h]
    rw [h] at H0
    generalize (delay b r l s).1 = d at *
    have hm0 := Int.mul_nonneg hw.2.1.1 hw.2.2.1.1
    have hm1 : r * l ≤ 1048576 * 1048576 := Int.mul_le_mul hw.2.1.2 hw.2.2.1.2 hw.2.2.1.1 (by decide)
    have e1 : wrap64 (r * l) = r * l := IntWalk.wrap64_in _ (by constructor <;> omega)
    have e2 : wrap64 (b + r * l) = b + r * l := IntWalk.wrap64_in _ (by constructor <;> omega)
    clear hm0 hm1 hw h
    go_enter Try.func11, Try.ntmps11
    go_upto_region 1 with fail
    change Code.wp _ _ _ _ (laid2 w b r l s)
    generalize laid2 w b r l s = m at *
    obtain ⟨⟨c0, c1⟩, c2, c3⟩ := HX.out.cells
    go_wp2_with fail
    refine (H0.out _).mono ?_
    rintro e w1 ⟨rfl, hb⟩
    have HY := Lib.hid (HX.out.later hb)
    clear HX hb c0 c1 c2 c3
    obtain ⟨⟨c0, c1⟩, c2, c3⟩ := HY.out.cells
    go_wp2_with fail
    go_ret2
    refine ⟨?_, HY.out.below⟩
    show Ending.returned (.tuple #[.int .i64 (wrap64 (b + r * l)), .int .i64 0]) = _
    rw [e2]
  · have hd := delay_err b r l s h
    rw [if_neg h]
    rw [hd] at H0
    generalize (delay b r l s).2 = d at *
    have e1 : (d != 0) = true := by simpa using h
    go_enter Try.func11, Try.ntmps11
    go_upto_region 1 with fail
    change Code.wp _ _ _ _ (laid2 w b r l s)
    generalize laid2 w b r l s = m at *
    obtain ⟨⟨c0, c1⟩, c2, c3⟩ := HX.out.cells
    go_wp2_with fail
    refine (H0.out _).mono ?_
    rintro e w1 ⟨rfl, hb⟩
    have HY := Lib.hid (HX.out.later hb)
    clear HX hb c0 c1 c2 c3
    go_wp2_with fail
    go_ret2
    exact ⟨rfl, HY.out.below⟩

/-- A service's store and result, as one step each. -/
theorem SerAt.frozen {w : World} {q : Nat} {l s : Int} (h : SerAt w q l s) (j : Nat) : w.frozen? ⟨q, j, none⟩ = false := frozen_of_row w q j _ _ h
theorem SerAt.stored {w : World} {q : Nat} {l s : Int} (h : SerAt w q l s) (m t : Int) : SerAt (w.setRow q #[.int .i64 m, .int .i64 t]) q m t := setRow_heap w q _ _ _ _ h
theorem info_ser : (Try.prog.info? 25).map (·.size) = some 2 := by kernel_rfl
theorem one_ser (l s : Int) : (#[Value.int .i64 l, Value.int .i64 s].all fun x => x.oneCell') = true := by simp [Value.oneCell']
theorem below_setRow {B : Nat} {a w : World} (h : Below B a w) {g : Nat} (hg : B ≤ g) (cs : Array Value) : Below B a (w.setRow g cs) :=
  ⟨h.os, h.tape, h.output, by simpa using h.size, fun k hk => (setRow_other w g k cs (by omega)).trans (h.block k hk)⟩
theorem wpList_store_ser {ops : Array Oper} {rest : List Oper} {o : Oper} {a : Act} {w : World} {Q : Exit → Act → World → Prop} (hgd : o.guard = none) (x y : Operand) (ho : o.op = .store 25 x y)
    (g : Nat) (l s l0 s0 : Int) (hx : a.eval x = .pointer (some ⟨g, 0, none⟩)) (hy : a.eval y = .agg #[.int .i64 l, .int .i64 s]) (hg : SerAt w g l0 s0)
    (k : wpList Try.prog ops Q rest (a.put o.dst undef) (w.setRow g #[.int .i64 l, .int .i64 s])) : wpList Try.prog ops Q (o :: rest) a w :=
  wpList_store_row hgd 25 x y ho g #[.int .i64 l, .int .i64 s] hx hy 25 _ hg info_ser rfl (one_ser l s) k
theorem results_ser2 {fn : Func} (p u : Tmp) (h : fn.results = #[.cell p 25, .tmp u]) (tmps : Array Value) (w : World) {g : Nat} {l s : Int} (hp : tmps.getD p undef = .pointer (some ⟨g, 0, none⟩)) (hq : SerAt w g l s) :
    (results fn tmps).run Try.prog w = .ok (.tuple #[.agg #[.int .i64 l, .int .i64 s], tmps.getD u undef]) w := by
  have hp' : tmps[p]?.getD undef = .pointer (some ⟨g, 0, none⟩) := by simpa using hp
  simp only [results, h]
  simp [Result.andThen, hp', asAddr, run_loadVar_row w g 25 25 _ _ _ hq Try.underlying25 rfl info_ser]

/-- Two services, and a result of noughts, in the first three blocks behind w0. -/
structure Trio (w0 w : World) (l s m t : Int) : Prop where
  below : Below w0.heap.size w0 w
  one : SerAt w w0.heap.size l s
  two : SerAt w (w0.heap.size + 1) m t
  res : SerAt w (w0.heap.size + 2) 0 0
theorem Trio.later {w0 w w' : World} {b r l s : Int} (h : Trio w0 w b r l s) (hb : Below w.heap.size w w') : Trio w0 w' b r l s := ⟨h.below.trans (hb.mono h.below.size), h.one.below hb, h.two.below hb, h.res.below hb⟩
def laid3 (w : World) (l s m t : Int) : World := laidS (laidS (laidS w l s) m t) 0 0
theorem laid3_at (w : World) (l s m t : Int) : Trio w (laid3 w l s m t) l s m t := by
  have h1 := laidS_at w l s
  have h2 := laidS_at (laidS w l s) m t
  have h3 := laidS_at (laidS (laidS w l s) m t) 0 0
  have b2 := h1.2.1.trans (h2.2.1.mono h1.2.1.size)
  refine ⟨b2.trans (h3.2.1.mono b2.size), (h1.1.below h2.2.1).below h3.2.1, ?_, ?_⟩
  · have := h2.1.below h3.2.1; rwa [h1.2.2] at this
  · have := h3.1; rwa [h2.2.2, h1.2.2] at this
theorem Trio.ended {w0 w : World} {b r l s : Int} (h : Trio w0 w b r l s) (m t : Int) : SerAt (w.setRow (w0.heap.size + 2) #[.int .i64 m, .int .i64 t]) (w0.heap.size + 2) m t ∧ Below w0.heap.size w0 (w.setRow (w0.heap.size + 2) #[.int .i64 m, .int .i64 t]) := ⟨h.res.stored m t, below_setRow h.below (by omega) _⟩

/-- The ways of a chain. -/
inductive CWay (l s m t : Int) : (Int × Int) × Int → Prop
  | bad (h : ((out20 l || out20 s) || (out20 m || out20 t)) = true) : CWay l s m t ((0, 0), 2)
  | full (h : ((out20 l || out20 s) || (out20 m || out20 t)) = false) (h1 : 1048576 < l + m) : CWay l s m t ((0, 0), 4)
  | good (h : ((out20 l || out20 s) || (out20 m || out20 t)) = false) (h1 : l + m ≤ 1048576) : CWay l s m t ((l + m, min s t), 0)
theorem chain_way (l s m t : Int) : CWay l s m t (chain l s m t) := by
  unfold chain
  cases h : ((out20 l || out20 s) || (out20 m || out20 t)) with
  | true => rw [if_pos rfl]; exact .bad h
  | false =>
    rw [if_neg (by decide)]
    by_cases h1 : 1048576 < l + m
    · rw [if_pos h1]; exact .full h h1
    · rw [if_neg h1]; exact .good h (by omega)
theorem pairs_false {l s m t : Int} (h : ((out20 l || out20 s) || (out20 m || out20 t)) = false) : (0 ≤ l ∧ l ≤ 1048576) ∧ (0 ≤ s ∧ s ≤ 1048576) ∧ (0 ≤ m ∧ m ≤ 1048576) ∧ (0 ≤ t ∧ t ≤ 1048576) := wrong4_false.1 h

set_option maxRecDepth 100000 in
set_option maxHeartbeats 4000000 in
theorem chain_any (l s m t : Int) (w : World) : Calls Try.prog 12 #[.agg #[.int .i64 l, .int .i64 s], .agg #[.int .i64 m, .int .i64 t]] w fun e w' => e = .returned (.tuple #[.agg #[.int .i64 (chain l s m t).1.1, .int .i64 (chain l s m t).1.2], .int .i64 (chain l s m t).2]) ∧ Below w.heap.size w w' := by
  have HX := Lib.hid (laid3_at w l s m t)
  have H0 := Lib.hid (fun w => wrongService_any l s w)
  have H1 := Lib.hid (fun w => wrongService_any m t w)
  have hw := chain_way l s m t
  generalize chain l s m t = D at *
  cases hw with
  | bad h =>
    generalize (out20 l || out20 s) = J0 at *
    generalize (out20 m || out20 t) = J1 at *
    cases J0 with
    | true =>
      clear h
      go_enter Try.func12, Try.ntmps12
      go_upto_region 1 with fail
      change Code.wp _ _ _ _ (laid3 w l s m t)
      generalize laid3 w l s m t = m0 at *
      obtain ⟨⟨c0, c1⟩, c2, c3⟩ := And.intro HX.out.one.cells HX.out.two.cells
      go_wp2_with fail
      refine (H0.out _).mono ?_
      rintro e w1 ⟨rfl, hb⟩
      have HY := Lib.hid (HX.out.later hb)
      clear HX hb c0 c1 c2 c3
      go_upto_region 2 with fail
      go_wp2_with (refine wpList_store_ser rfl (.tmp 4) (.tmp 12) rfl (w.heap.size + 2) 0 0 0 0 rfl rfl HY.out.res ?_)
      exact bodyPost_ret (results_ser2 4 5 rfl _ _ rfl (HY.out.ended 0 0).1) rfl ⟨rfl, (HY.out.ended 0 0).2⟩
    | false =>
      rw [Bool.false_or] at h
      subst h
      go_enter Try.func12, Try.ntmps12
      go_upto_region 1 with fail
      change Code.wp _ _ _ _ (laid3 w l s m t)
      generalize laid3 w l s m t = m0 at *
      obtain ⟨⟨c0, c1⟩, c2, c3⟩ := And.intro HX.out.one.cells HX.out.two.cells
      go_wp2_with fail
      refine (H0.out _).mono ?_
      rintro e w1 ⟨rfl, hb⟩
      have HZ := Lib.hid (HX.out.later hb)
      clear HX hb c0 c1 c2 c3
      obtain ⟨⟨c0, c1⟩, c2, c3⟩ := And.intro HZ.out.one.cells HZ.out.two.cells
      go_wp2_with fail
      refine (H1.out _).mono ?_
      rintro e w2 ⟨rfl, hb⟩
      have HY := Lib.hid (HZ.out.later hb)
      clear HZ hb c0 c1 c2 c3
      go_upto_region 2 with fail
      go_wp2_with (refine wpList_store_ser rfl (.tmp 4) (.tmp 12) rfl (w.heap.size + 2) 0 0 0 0 rfl rfl HY.out.res ?_)
      exact bodyPost_ret (results_ser2 4 5 rfl _ _ rfl (HY.out.ended 0 0).1) rfl ⟨rfl, (HY.out.ended 0 0).2⟩
  | full h h1 =>
    have hf := pairs_false h
    rw [Bool.or_eq_false_iff] at h
    rw [h.1] at H0
    rw [h.2] at H1
    clear h
    have e1 : wrap64 (l + m) = l + m := IntWalk.wrap64_in _ (by constructor <;> omega)
    go_enter Try.func12, Try.ntmps12
    go_upto_region 1 with fail
    change Code.wp _ _ _ _ (laid3 w l s m t)
    generalize laid3 w l s m t = m0 at *
    obtain ⟨⟨c0, c1⟩, c2, c3⟩ := And.intro HX.out.one.cells HX.out.two.cells
    go_wp2_with fail
    refine (H0.out _).mono ?_
    rintro e w1 ⟨rfl, hb⟩
    have HZ := Lib.hid (HX.out.later hb)
    clear HX hb c0 c1 c2 c3
    obtain ⟨⟨c0, c1⟩, c2, c3⟩ := And.intro HZ.out.one.cells HZ.out.two.cells
    go_wp2_with fail
    refine (H1.out _).mono ?_
    rintro e w2 ⟨rfl, hb⟩
    have HY := Lib.hid (HZ.out.later hb)
    clear HZ hb c0 c1 c2 c3
    obtain ⟨⟨c0, c1⟩, c2, c3⟩ := And.intro HY.out.one.cells HY.out.two.cells
    go_upto_region 4 with fail
    go_wp2_with (refine wpList_store_ser rfl (.tmp 4) (.tmp 19) rfl (w.heap.size + 2) 0 0 0 0 rfl rfl HY.out.res ?_)
    exact bodyPost_ret (results_ser2 4 5 rfl _ _ rfl (HY.out.ended 0 0).1) rfl ⟨rfl, (HY.out.ended 0 0).2⟩
  | good h h1 =>
    have hf := pairs_false h
    rw [Bool.or_eq_false_iff] at h
    rw [h.1] at H0
    rw [h.2] at H1
    clear h
    have e1 : wrap64 (l + m) = l + m := IntWalk.wrap64_in _ (by constructor <;> omega)
    have e2 : Hid ((if t < s then t else s) = min s t) := Lib.hid (by split <;> omega)
    generalize min s t = M at *
    go_enter Try.func12, Try.ntmps12
    go_upto_region 1 with fail
    change Code.wp _ _ _ _ (laid3 w l s m t)
    generalize laid3 w l s m t = m0 at *
    obtain ⟨⟨c0, c1⟩, c2, c3⟩ := And.intro HX.out.one.cells HX.out.two.cells
    go_wp2_with fail
    refine (H0.out _).mono ?_
    rintro e w1 ⟨rfl, hb⟩
    have HZ := Lib.hid (HX.out.later hb)
    clear HX hb c0 c1 c2 c3
    obtain ⟨⟨c0, c1⟩, c2, c3⟩ := And.intro HZ.out.one.cells HZ.out.two.cells
    go_wp2_with fail
    refine (H1.out _).mono ?_
    rintro e w2 ⟨rfl, hb⟩
    have HY := Lib.hid (HZ.out.later hb)
    clear HZ hb c0 c1 c2 c3
    obtain ⟨⟨c0, c1⟩, c2, c3⟩ := And.intro HY.out.one.cells HY.out.two.cells
    go_upto_region 5 with fail
    have e3 := e2.out
    go_wp2_with (refine wpList_store_ser rfl (.tmp 4) (.tmp 30) rfl (w.heap.size + 2) (l + m) M 0 0 rfl (by simp [Act.eval]) HY.out.res ?_)
    exact bodyPost_ret (results_ser2 4 5 rfl _ _ rfl (HY.out.ended (l + m) M).1) rfl ⟨rfl, (HY.out.ended (l + m) M).2⟩
end Go.Proofs.Ytdlmiiekcpbdcaa
