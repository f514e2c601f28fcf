/- (*queue).push inserts an item, or tells that its Id is present. -/
import Derived.Test.YtbckppflfgdblaaHp7
import Derived.Deep.RegionLaw
namespace Go.Proofs.Ytbckppflfgdblaa
open Go.RowKit Go.Maps

theorem rep_some {f : Nat → It} {n : Nat} {M : Held} {p : Places} (hr : Rep f n M) (hp : PlaceOk p f n) (x : Int) : (p x).isSome = (M x).isSome := by
  cases hM : M x with
  | none =>
    cases hx : p x with
    | none => rfl
    | some v =>
      obtain ⟨j, hj, e, _⟩ := (hp _ _).1 hx
      have := hr.held j hj
      rw [e, hM] at this
      cases this
  | some k =>
    obtain ⟨j, hj, e⟩ := hr.all x k hM
    have := hp.at hj
    rw [e] at this
    rw [this]; rfl

set_option maxHeartbeats 1000000 in
theorem push_held {B : Nat} {w : World} {q m n : Nat} {P : Value} {M : Held} (h : QT B q m P n M w) (x : It) (hx : I64 x.id) (hM : (M x.id).isSome = true) :
    Calls Try.prog 34 #[.pointer (some ⟨q, 0, none⟩), .agg #[.int .i64 x.id, .int .u64 x.hi, .int .u64 x.lo]] w fun e w' => e = .returned (.int .i64 6) ∧ Below w.heap.size w w' := by
  obtain ⟨f, hQ, hh, hr⟩ := h
  have hc1 := hQ.c1
  have hq := hQ.lt
  obtain ⟨p, hp, hpo⟩ := hQ.place
  obtain ⟨v, hl, _⟩ := (show MapIs (w.alloc (.cells #[.int .i64 x.id, .int .u64 x.hi, .int .u64 x.lo] 71)).drew m n p from hp.of_block (Below.heap_alloc w _ m hp.lt)).look hx
  rw [rep_some hr hpo, hM] at hl
  clear hQ hh hr hp hpo
  go_enter Try.func34, Try.ntmps34
  go_wp2
  go_region
  go_wp2
  go_ret
  refine ⟨rfl, ?_⟩
  have h0 : Below w.heap.size w (w.alloc (.cells #[.int .i64 x.id, .int .u64 x.hi, .int .u64 x.lo] 71)) := (Below.refl _ _).alloc (Nat.le_refl _) _
  exact ⟨h0.os, h0.tape, h0.output, h0.size, h0.block⟩

def Pushed (B q m : Nat) (P : Value) (n : Nat) (M : Held) (x : It) (w : World) (e : Ending) (w' : World) : Prop :=
  e = .returned (.int .i64 0) ∧ QT B q m P (n + 1) (updM M x.id x.key) w' ∧ Fr T71 B q m w w'

theorem push_step {B : Nat} {w : World} {q m n : Nat} {P : Value} {M : Held} {f : Nat → It} {x : It} (h : Qs B w q m n P f ∧ Heap f n ∧ Rep f n M ∧ I64 x.id ∧ M x.id = none ∧ n + 1 ≤ 5000000000000 ∧ B ≤ w.heap.size) {A : Option Addr} {cap : Nat} (hA : w.cell? ⟨q, 0, none⟩ = some (.slice A n cap))
    {W1 : World} (hW : W1 = (w.alloc (.cells #[.int .i64 x.id, .int .u64 x.hi, .int .u64 x.lo] 71)).drew) :
    ∃ g cap' W, (Builtin.append_ #[53, 53] 53 #[.slice A n cap, .slice (some ⟨W1.heap.size, 0, none⟩) 1 1]).run Try.prog (W1.alloc (.cells #[.int .i64 x.id, .int .u64 x.hi, .int .u64 x.lo] 71)).drew = .ok (.slice (some ⟨g, 0, none⟩) (n + 1) cap') W ∧
      W.cell? ⟨q, 0, none⟩ = some (.slice A n cap) ∧ W.frozen? ⟨q, 0, none⟩ = false ∧
      (W.setCell ⟨q, 0, none⟩ (.slice (some ⟨g, 0, none⟩) (n + 1) cap')).cell? ⟨q, 1, none⟩ = some (.map (some m)) ∧ (W.setCell ⟨q, 0, none⟩ (.slice (some ⟨g, 0, none⟩) (n + 1) cap')).cell? ⟨w.heap.size, 0, none⟩ = some (.int .i64 x.id) ∧
      ∃ W4, (Instr.mapUpdate 52 (.map (some m)) (.int .i64 x.id) (.int .i64 (n : Int))).run Try.prog (W.setCell ⟨q, 0, none⟩ (.slice (some ⟨g, 0, none⟩) (n + 1) cap')).drew = .ok () W4 ∧
      (B ≤ g ∧ QH W4 q g m cap' (n + 1) P (push1 f n x) ∧ HB (push1 f n x) (n + 1) n ∧ Rep (push1 f n x) (n + 1) (updM M x.id x.key) ∧ Fr T71 B q m w W4) := by
  obtain ⟨hQ, hh, hr, hx, hM, hn, hB⟩ := h
  have hb : Below w.heap.size w W1 := by
    rw [hW]
    have h0 : Below w.heap.size w (w.alloc (.cells #[.int .i64 x.id, .int .u64 x.hi, .int .u64 x.lo] 71)) := (Below.refl _ _).alloc (Nat.le_refl _) _
    exact ⟨h0.os, h0.tape, h0.output, h0.size, h0.block⟩
  have hne : ∀ j, j < n → (f j).id ≠ x.id := fun j hj e => by have := hr.held j hj; rw [e, hM] at this; cases this
  have hsz : W1.heap.size = w.heap.size + 1 := by rw [hW]; show (w.alloc _).heap.size = _; simp
  have hAb : ¬ Ab A w.heap.size := by
    rintro ⟨a, rfl, ha⟩
    rcases hQ with ⟨rfl, hr0, _⟩ | ⟨g0, cap1, hg0, hQ⟩
    · have := hr0.cell (i := 0) (by omega)
      rw [hA] at this
      simp [tri] at this
    · have := hQ.c0
      rw [hA] at this
      simp only [Option.some.injEq, Value.slice.injEq] at this
      obtain ⟨rfl, _, _⟩ := this
      obtain ⟨F0, hF0, _⟩ := hQ.items
      have := hF0.lt
      simp only at ha
      omega
  have hlt := hQ.lt
  obtain ⟨g, cap', W, r, a1, a2, a3, a4, W4, r4, b1, b2, b3⟩ := push_mid (bx := w.heap.size) (hQ.below hb) hn (by omega) x hx hne (A := A) (cap := cap) ((World.cell?_of_block (hb.block q hlt)).trans hA)
    (by rw [hW]; exact cell_of_row _ _ _ _ _ _ (heap_alloc_new w _)) hAb (by omega) (by omega)
  exact ⟨g, cap', W, r, a1, a2, a3, a4, W4, r4, b1, b2, hh.push1 x, hr.push1 hM, (Fr.of_below hb).trans b3⟩

/-- An append whose run is known, as one step of a region that draws. -/
theorem step_append_eq {P : Program} {ops : Array Oper} {o : Oper} {a : Act} {w : World} {K : Act → World → Prop} {Q : Exit → Act → World → Prop} {E : Prop}
    (hg : o.guard = none) (s x : Operand) (t : TypeId) (hop : o.op = Op.call { callee := Callee.builtin Builtin.append, args := #[s, x], argTypes := #[t, t] })
    {vs vx v : Value} {w' : World} (hs : a.eval s = vs) (hx : a.eval x = vx) (hrun : (Builtin.append_ #[t, t] o.type #[vs, vx]).run P w = .ok v w') (hK : K (a.put o.dst v) w') :
    if Region.wanted o (yielded ops a.tmps) = true then Oper.wp P o a w K Q else E := by
  have hw : Region.wanted o (yielded ops a.tmps) = true := by simp [Region.wanted, hg]
  rw [if_pos hw]
  unfold Oper.wp execOp
  simp only [hop, resolve, invoke, builtin, Sem.run_bind, Sem.run_pure, Result.andThen_ok, List.map_toArray, List.map_cons, List.map_nil, hs, hx, hrun]
  exact hK

set_option maxRecDepth 100000 in
set_option maxHeartbeats 2000000 in
theorem push_new {B : Nat} {w : World} {q m n : Nat} {P : Value} {M : Held} (h : QT B q m P n M w) (x : It) (hx : I64 x.id) (hM : M x.id = none) (hn : n + 1 ≤ 5000000000000) (hB : B ≤ w.heap.size) :
    Calls Try.prog 34 #[.pointer (some ⟨q, 0, none⟩), .agg #[.int .i64 x.id, .int .u64 x.hi, .int .u64 x.lo]] w (Pushed B q m P n M x w) := by
  obtain ⟨f, hQ, hh, hr⟩ := h
  have hc1 := hQ.c1
  have hq := hQ.lt
  obtain ⟨A, cap, hc0, hcA, hnc, hcm⟩ := hQ.c0
  have hneq : ¬ w.heap.size = q := by omega
  obtain ⟨p, hp, hpo⟩ := hQ.place
  obtain ⟨v, hl, _⟩ := (show MapIs (w.alloc (.cells #[.int .i64 x.id, .int .u64 x.hi, .int .u64 x.lo] 71)).drew m n p from hp.of_block (Below.heap_alloc w _ m hp.lt)).look hx
  have hM0 : (M x.id).isSome = false := by rw [hM]; rfl
  rw [rep_some hr hpo, hM0] at hl
  clear hM0
  have HX := Lib.hid (And.intro hQ (And.intro hh (And.intro hr (And.intro hx (And.intro hM (And.intro hn hB))))))
  clear hQ hh hr hp hpo hx hM hB
  go_enter Try.func34, Try.ntmps34
  go_wp2
  go_region
  go_wp2_with fail
  generalize hW : World.drew _ = W1
  obtain ⟨g, cap', W2, r2, k1, k2, k3, k4, W4, r4, HY⟩ := push_step HX.out hc0 hW.symm
  have HZ := Lib.hid HY
  have s1 : W1.cell? ⟨q, 0, none⟩ = some (.slice A n cap) := by rw [← hW]; exact (World.cell?_of_block (Below.heap_alloc w _ q hq)).trans hc0
  have s2 : W1.cell? ⟨q, 1, none⟩ = some (.map (some m)) := by rw [← hW]; exact (World.cell?_of_block (Below.heap_alloc w _ q hq)).trans hc1
  have e0 : W1.heap.size = w.heap.size + 1 := by rw [← hW]; show (w.alloc _).heap.size = _; simp
  have s3 : W1.cell? ⟨w.heap.size, 0, none⟩ = some (.int .i64 x.id) := by rw [← hW]; exact cell_of_row _ _ _ _ _ _ (heap_alloc_new w _)
  have s4 : W1.cell? ⟨w.heap.size, 1, none⟩ = some (.int .u64 x.hi) := by rw [← hW]; exact cell_of_row _ _ _ _ _ _ (heap_alloc_new w _)
  have s5 : W1.cell? ⟨w.heap.size, 2, none⟩ = some (.int .u64 x.lo) := by rw [← hW]; exact cell_of_row _ _ _ _ _ _ (heap_alloc_new w _)
  have s6 : q < W1.heap.size := by rw [e0]; exact Nat.lt_succ_of_lt hq
  have s7 : w.heap.size < W1.heap.size := by rw [e0]; exact Nat.lt_succ_self _
  clear hW HY e0 hc0 hc1 hq hl hneq
  generalize w.heap.size = bx at *
  go_wp2_with fail
  go_region_law (refine step_append_eq rfl (.tmp 28) (.tmp 30) 53 rfl (by rfl) (by rfl) r2 ?_)
  all_goals
    go_wp2_with fail
    go_region
    have HS := Lib.hid (settle_any HZ.out.2.1 (show n < n + 1 by omega) HZ.out.2.2.1 HZ.out.2.2.2.1)
    go_wp2_with fail
    refine HS.out.mono ?_
    rintro e w5 ⟨rfl, f5, b1, b2, b3, b4⟩
    go_wp2
    go_ret
    exact ⟨rfl, ⟨f5, .inr ⟨g, cap', HZ.out.1, b1⟩, b2, b3⟩, HZ.out.2.2.2.2.trans (fr_of_qgm HZ.out.2.1 HZ.out.1 (b4.mono (fun _ _ e => .inr e)))⟩

end Go.Proofs.Ytbckppflfgdblaa
