/- Package share: fractions in memory; short. -/
import Derived.Test.YtlpchakoikmbnaaSh1
namespace Go.Proofs.Ytlpchakoikmbnaa
open Go.RowKit Go.Maps

/-- A fraction lies in a block of its own. -/
def FrAt (w : World) (g : Nat) (n d : Int) : Prop := w.heap[g]? = some (.cells #[.int .i64 n, .int .i64 d] 24 (0, 0))
theorem FrAt.cells {w : World} {g : Nat} {n d : Int} (h : FrAt w g n d) : w.cell? ⟨g, 0, none⟩ = some (.int .i64 n) ∧ w.cell? ⟨g, 1, none⟩ = some (.int .i64 d) := ⟨cell_of_row _ _ 0 _ _ _ h, cell_of_row _ _ 1 _ _ _ h⟩
theorem FrAt.lt {w : World} {g : Nat} {n d : Int} (h : FrAt w g n d) : g < w.heap.size := (Array.getElem?_eq_some_iff.1 h).1
theorem FrAt.below {w w' : World} {g : Nat} {n d : Int} (h : FrAt w g n d) (hb : Below w.heap.size w w') : FrAt w' g n d := (hb.block g h.lt).trans h
theorem FrAt.thawed {w : World} {g : Nat} {n d : Int} (h : FrAt w g n d) (i : Nat) : w.frozen? ⟨g, i, none⟩ = false := by
  simp [World.frozen?, show w.heap[g]? = _ from h]
def laidF (w : World) (n d : Int) : World := w.alloc (.cells #[.int .i64 n, .int .i64 d] 24)
theorem laidF_at (w : World) (n d : Int) : FrAt (laidF w n d) w.heap.size n d ∧ Below w.heap.size w (laidF w n d) ∧ (laidF w n d).heap.size = w.heap.size + 1 := ⟨heap_alloc_new w _, (Below.refl _ _).alloc (Nat.le_refl _) _, by simp [laidF]⟩

theorem FrAt.num {w : World} {g : Nat} {n d : Int} (h : FrAt w g n d) (x : Int) : FrAt (w.setCell ⟨g, 0, none⟩ (.int .i64 x)) g x d := heap_setCell_same w g 0 _ _ _ h
theorem FrAt.den {w : World} {g : Nat} {n d : Int} (h : FrAt w g n d) (x : Int) : FrAt (w.setCell ⟨g, 1, none⟩ (.int .i64 x)) g n x := heap_setCell_same w g 1 _ _ _ h
theorem FrAt.other {w : World} {g : Nat} {n d : Int} (h : FrAt w g n d) {a : Addr} (hne : g ≠ a.block) (v : Value) : FrAt (w.setCell a v) g n d := (heap_setCell_other w a g v hne).trans h
theorem FrAt.stored {w : World} {g : Nat} {n d : Int} (h : FrAt w g n d) (m e : Int) : FrAt (w.setRow g #[.int .i64 m, .int .i64 e]) g m e := setRow_heap w g _ _ _ _ h
theorem info_fr : (Try.prog.info? 24).map (·.size) = some 2 := by kernel_rfl
theorem one_fr (l s : Int) : (#[Value.int .i64 l, Value.int .i64 s].all fun x => x.oneCell') = true := by simp [Value.oneCell']
theorem below_setRow {B : Nat} {a w : World} (h : Below B a w) {g : Nat} (hg : B ≤ g) (cs : Array Value) : Below B a (w.setRow g cs) :=
  ⟨h.os, h.tape, h.output, by simpa using h.size, fun k hk => (setRow_other w g k cs (by omega)).trans (h.block k hk)⟩
theorem wpList_store_fr {ops : Array Oper} {rest : List Oper} {o : Oper} {a : Act} {w : World} {Q : Exit → Act → World → Prop} (hgd : o.guard = none) (x y : Operand) (ho : o.op = .store 24 x y)
    (g : Nat) (l s l0 s0 : Int) (hx : a.eval x = .pointer (some ⟨g, 0, none⟩)) (hy : a.eval y = .agg #[.int .i64 l, .int .i64 s]) (hg : FrAt w g l0 s0)
    (k : wpList Try.prog ops Q rest (a.put o.dst undef) (w.setRow g #[.int .i64 l, .int .i64 s])) : wpList Try.prog ops Q (o :: rest) a w :=
  wpList_store_row hgd 24 x y ho g #[.int .i64 l, .int .i64 s] hx hy 24 _ hg info_fr rfl (one_fr l s) k
theorem results_fr2 {fn : Func} (p u : Tmp) (h : fn.results = #[.cell p 24, .tmp u]) (tmps : Array Value) (w : World) {g : Nat} {l s : Int} (hp : tmps.getD p undef = .pointer (some ⟨g, 0, none⟩)) (hq : FrAt w g l s) :
    (results fn tmps).run Try.prog w = .ok (.tuple #[.agg #[.int .i64 l, .int .i64 s], tmps.getD u undef]) w := by
  have hp' : tmps[p]?.getD undef = .pointer (some ⟨g, 0, none⟩) := by simpa using hp
  simp only [results, h]
  simp [Result.andThen, hp', asAddr, run_loadVar_row w g 24 24 _ _ _ hq Try.underlying24 rfl info_fr]
theorem mul_in {a d : Int} (ha : 0 ≤ a ∧ a ≤ 16777216) (hd : -16777216 ≤ d ∧ d ≤ 16777216) : wrap64 (a * d) = a * d := by
  have h1 := Int.mul_le_mul_of_nonneg_left hd.2 ha.1
  have h2 := Int.mul_le_mul_of_nonneg_left hd.1 ha.1
  have h3 := Int.mul_le_mul_of_nonneg_right ha.2 (show (0 : Int) ≤ 16777216 by decide)
  exact IntWalk.wrap64_in _ (by constructor <;> omega)
theorem wrap_in {x : Int} (h0 : -9223372036854775808 ≤ x) (h1 : x ≤ 9223372036854775807) : IntKind.i64.wrap x = x := by
  rw [IntKind.wrap_i64]
  omega
theorem mul_wrap {a d : Int} (ha : 0 ≤ a ∧ a ≤ 16777216) (hd : -16777216 ≤ d ∧ d ≤ 16777216) : IntKind.i64.wrap (a * d) = a * d := by
  have h1 := Int.mul_le_mul_of_nonneg_left hd.2 ha.1
  have h2 := Int.mul_le_mul_of_nonneg_left hd.1 ha.1
  have h3 := Int.mul_le_mul_of_nonneg_right ha.2 (show (0 : Int) ≤ 16777216 by decide)
  exact wrap_in (by omega) (by omega)
set_option maxHeartbeats 1000000 in
theorem short_any {a c n d : Int} (ha : 0 ≤ a ∧ a ≤ 1048576) (hc : 0 ≤ c ∧ c ≤ 1000) (hn : -16777216 ≤ n ∧ n ≤ 16777216) (hd : 0 ≤ d ∧ d ≤ 16000) (w : World) :
    Calls Try.prog 21 #[.int .i64 a, .int .i64 c, .agg #[.int .i64 n, .int .i64 d]] w fun e w' => e = .returned (.bool (decide (c * n < a * d))) ∧ Below w.heap.size w w' := by
  have HX := Lib.hid (laidF_at w n d)
  have e1 : wrap64 (a * d) = a * d := mul_in (by omega) (by omega)
  have e2 : wrap64 (c * n) = c * n := mul_in (by omega) (by omega)
  clear ha hc hn hd
  have E := Lib.hid (And.intro e1 e2)
  clear e1 e2
  go_enter Try.func21, Try.ntmps21
  go_upto_region 1 with fail
  change Code.wp _ _ _ _ (laidF w n d)
  generalize laidF w n d = m at *
  obtain ⟨c0, c1⟩ := HX.out.1.cells
  go_wp2_with fail
  go_ret
  refine ⟨?_, HX.out.2.1⟩
  show Ending.returned (.bool (decide (wrap64 (c * n) < wrap64 (a * d)))) = _
  rw [E.out.1, E.out.2]
end Go.Proofs.Ytlpchakoikmbnaa
