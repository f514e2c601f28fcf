/- Meters in memory: a block of their own; store, load and results as one step; between and Right. -/
import Derived.Test.YtnbjcahhmibmdaaMtMath
import Derived.Test.YtnbjcahhmibmdaaIn1
namespace Go.Proofs.Ytnbjcahhmibmdaa
open Go.RowKit Go.Maps

def Mt.cells (b : Mt) : Array Value := #[.int .i64 b.rate, .int .i64 b.burst, .int .i64 b.exc, .int .i64 b.fst, .int .i64 b.snd, .int .i64 b.tm]
/-- A meter lies in a block of its own. -/
def MtAt (w : World) (q : Nat) (b : Mt) : Prop := w.heap[q]? = some (.cells b.cells 23 (0, 0))
namespace MtAt
variable {w w' : World} {q : Nat} {b : Mt}
theorem lt (h : MtAt w q b) : q < w.heap.size := (Array.getElem?_eq_some_iff.1 h).1
theorem below (h : MtAt w q b) (hb : Below w.heap.size w w') : MtAt w' q b := (hb.block q h.lt).trans h
theorem cells (h : MtAt w q b) : w.cell? ⟨q, 0, none⟩ = some (.int .i64 b.rate) ∧ w.cell? ⟨q, 1, none⟩ = some (.int .i64 b.burst) ∧ w.cell? ⟨q, 2, none⟩ = some (.int .i64 b.exc) ∧ w.cell? ⟨q, 3, none⟩ = some (.int .i64 b.fst) ∧ w.cell? ⟨q, 4, none⟩ = some (.int .i64 b.snd) ∧ w.cell? ⟨q, 5, none⟩ = some (.int .i64 b.tm) :=
  ⟨cell_of_row _ _ 0 _ _ _ h, cell_of_row _ _ 1 _ _ _ h, cell_of_row _ _ 2 _ _ _ h, cell_of_row _ _ 3 _ _ _ h, cell_of_row _ _ 4 _ _ _ h, cell_of_row _ _ 5 _ _ _ h⟩
theorem new (w : World) (b : Mt) : MtAt (w.alloc (.cells b.cells 23)) w.heap.size b := heap_alloc_new w _
theorem frozen (h : MtAt w q b) (j : Nat) : w.frozen? ⟨q, j, none⟩ = false := frozen_of_row w q j _ _ h
theorem stored (h : MtAt w q b) (c : Mt) : MtAt (w.setRow q c.cells) q c := setRow_heap w q _ _ _ _ h
theorem drewN (h : MtAt w q b) (n : Nat) : MtAt (w.drewN n) q b := h
theorem fst (h : MtAt w q b) (x : Int) : MtAt (w.setCell ⟨q, 3, none⟩ (.int .i64 x)) q { b with fst := x } := heap_setCell_same w q 3 _ _ _ h
theorem snd (h : MtAt w q b) (x : Int) : MtAt (w.setCell ⟨q, 4, none⟩ (.int .i64 x)) q { b with snd := x } := heap_setCell_same w q 4 _ _ _ h
theorem tm (h : MtAt w q b) (x : Int) : MtAt (w.setCell ⟨q, 5, none⟩ (.int .i64 x)) q { b with tm := x } := heap_setCell_same w q 5 _ _ _ h
theorem other (h : MtAt w q b) (a : Addr) (v : Value) (hne : q ≠ a.block) : MtAt (w.setCell a v) q b := (heap_setCell_other w a q v hne).trans h
end MtAt
theorem below_setRow {B : Nat} {a w : World} (h : Below B a w) {g : Nat} (hg : B ≤ g) (cs : Array Value) : Below B a (w.setRow g cs) :=
  ⟨h.os, h.tape, h.output, by simpa using h.size, fun k hk => (setRow_other w g k cs (by omega)).trans (h.block k hk)⟩
theorem info_meter : (Try.prog.info? 23).map (·.size) = some 6 := by kernel_rfl
theorem one_meter (b : Mt) : (b.cells.all fun x => x.oneCell') = true := by simp [Mt.cells, Value.oneCell']
/-- A meter's store, load and result, as one step each. -/
theorem wpList_store_mt {ops : Array Oper} {rest : List Oper} {o : Oper} {a : Act} {w : World} {Q : Exit → Act → World → Prop} (hgd : o.guard = none) (x y : Operand) (ho : o.op = .store 23 x y)
    (g : Nat) (b b0 : Mt) (hx : a.eval x = .pointer (some ⟨g, 0, none⟩)) (hy : a.eval y = .agg b.cells) (hg : MtAt w g b0)
    (k : wpList Try.prog ops Q rest (a.put o.dst undef) (w.setRow g b.cells)) : wpList Try.prog ops Q (o :: rest) a w :=
  wpList_store_row hgd 23 x y ho g b.cells hx hy 23 b0.cells hg info_meter rfl (one_meter b) k
theorem wpList_load_mt {ops : Array Oper} {rest : List Oper} {o : Oper} {a : Act} {w : World} {Q : Exit → Act → World → Prop} (hgd : o.guard = none) (x : Operand) (ho : o.op = .load 23 x)
    (g : Nat) (b : Mt) (hx : a.eval x = .pointer (some ⟨g, 0, none⟩)) (hg : MtAt w g b)
    (k : wpList Try.prog ops Q rest (a.put o.dst (.agg b.cells)) w) : wpList Try.prog ops Q (o :: rest) a w :=
  wpList_load_row hgd 23 x ho g hx 23 b.cells (0, 0) _ hg Try.underlying23 rfl info_meter k
theorem wp_store_mt {o : Oper} {a : Act} {w : World} {K : Act → World → Prop} {Q : Exit → Act → World → Prop} (x y : Operand) (ho : o.op = .store 23 x y)
    (g : Nat) (b b0 : Mt) (hx : a.eval x = .pointer (some ⟨g, 0, none⟩)) (hy : a.eval y = .agg b.cells) (hg : MtAt w g b0)
    (k : K (a.put o.dst undef) (w.setRow g b.cells)) : o.wp Try.prog a w K Q :=
  wp_store_row 23 x y ho g b.cells hx hy 23 b0.cells hg info_meter rfl (one_meter b) k
theorem results_mt1 {fn : Func} (p : Tmp) (h : fn.results = #[.cell p 23]) (tmps : Array Value) (w : World) {g : Nat} {b : Mt} (hp : tmps.getD p undef = .pointer (some ⟨g, 0, none⟩)) (hq : MtAt w g b) :
    (results fn tmps).run Try.prog w = .ok (.agg b.cells) w := by
  have hp' : tmps[p]?.getD undef = .pointer (some ⟨g, 0, none⟩) := by simpa using hp
  simp only [results, h]
  simp [hp', asAddr, run_loadVar_row w g 23 23 _ _ _ hq Try.underlying23 rfl info_meter]
theorem results_mt2 {fn : Func} (p u : Tmp) (h : fn.results = #[.cell p 23, .tmp u]) (tmps : Array Value) (w : World) {g : Nat} {b : Mt} (hp : tmps.getD p undef = .pointer (some ⟨g, 0, none⟩)) (hq : MtAt w g b) :
    (results fn tmps).run Try.prog w = .ok (.tuple #[.agg b.cells, tmps.getD u undef]) w := by
  have hp' : tmps[p]?.getD undef = .pointer (some ⟨g, 0, none⟩) := by simpa using hp
  simp only [results, h]
  simp [Result.andThen, hp', asAddr, run_loadVar_row w g 23 23 _ _ _ hq Try.underlying23 rfl info_meter]
theorem results_mt3 {fn : Func} (p u v : Tmp) (h : fn.results = #[.cell p 23, .tmp u, .tmp v]) (tmps : Array Value) (w : World) {g : Nat} {b : Mt} (hp : tmps.getD p undef = .pointer (some ⟨g, 0, none⟩)) (hq : MtAt w g b) :
    (results fn tmps).run Try.prog w = .ok (.tuple #[.agg b.cells, tmps.getD u undef, tmps.getD v undef]) w := by
  have hp' : tmps[p]?.getD undef = .pointer (some ⟨g, 0, none⟩) := by simpa using hp
  simp only [results, h]
  simp [Result.andThen, hp', asAddr, run_loadVar_row w g 23 23 _ _ _ hq Try.underlying23 rfl info_meter]
theorem results_mt_mid {fn : Func} (p u v : Tmp) (h : fn.results = #[.tmp u, .cell p 23, .tmp v]) (tmps : Array Value) (w : World) {g : Nat} {b : Mt} (hp : tmps.getD p undef = .pointer (some ⟨g, 0, none⟩)) (hq : MtAt w g b) :
    (results fn tmps).run Try.prog w = .ok (.tuple #[tmps.getD u undef, .agg b.cells, tmps.getD v undef]) w := by
  have hp' : tmps[p]?.getD undef = .pointer (some ⟨g, 0, none⟩) := by simpa using hp
  simp only [results, h]
  simp [Result.andThen, hp', asAddr, run_loadVar_row w g 23 23 _ _ _ hq Try.underlying23 rfl info_meter]

set_option maxHeartbeats 1000000 in
theorem between_eq (n l h : Int) (w : World) :
    Calls Try.prog 16 #[.int .i64 n, .int .i64 l, .int .i64 h] w fun e w' => e = .returned (.bool (btw n l h)) ∧ w = w' := by
  unfold btw
  by_cases c : l ≤ n
  · go_enter Try.func16, Try.ntmps16
    go_wp2
    go_ret
    exact ⟨ret_bool (by simp [c]), rfl⟩
  · go_enter Try.func16, Try.ntmps16
    go_wp2
    go_ret
    exact ⟨ret_bool (by simp; omega), rfl⟩

theorem right_no {b : Mt} {j0 j1 j2 j3 j4 j5 : Bool} (h0 : btw b.rate 0 1048576 = j0) (h1 : btw b.burst 0 1048576 = j1) (h2 : btw b.exc 0 1048576 = j2) (h3 : btw b.fst 0 b.burst = j3) (h4 : btw b.snd 0 b.exc = j4) (h5 : btw b.tm 0 1099511627776 = j5) : b.right = (j0 && (j1 && (j2 && (j3 && (j4 && j5))))) := by
  unfold Mt.right
  rw [h0, h1, h2, h3, h4, h5]
theorem wrap_i64 {x : Int} (h0 : -9223372036854775808 ≤ x) (h1 : x ≤ 9223372036854775807) : IntKind.i64.wrap x = x := by
  simp [IntKind.wrap, IntKind.bits, IntKind.signed]
  omega
theorem w64 {x : Int} (h0 : -9223372036854775808 ≤ x) (h1 : x ≤ 9223372036854775807) : wrap64 x = x := IntWalk.wrap64_in x ⟨h0, h1⟩
/-- A meter in a new block. -/
def laidM (w : World) (b : Mt) : World := w.alloc (.cells #[.int .i64 b.rate, .int .i64 b.burst, .int .i64 b.exc, .int .i64 b.fst, .int .i64 b.snd, .int .i64 b.tm] 23)
theorem laidM_at (w : World) (b : Mt) : MtAt (laidM w b) w.heap.size b ∧ Below w.heap.size w (laidM w b) := ⟨heap_alloc_new w _, (Below.refl _ _).alloc (Nat.le_refl _) _⟩

set_option maxRecDepth 100000 in
set_option maxHeartbeats 8000000 in
theorem right_any (b : Mt) (w : World) :
    Calls Try.prog 11 #[.agg b.cells] w fun e w' => e = .returned (.bool b.right) ∧ Below w.heap.size w w' := by
  have HX := Lib.hid (right_no (b := b) rfl rfl rfl rfl rfl rfl)
  have HB := Lib.hid (laidM_at w b).2
  unfold laidM at HB
  have H0 := Lib.hid (fun w => between_eq b.rate 0 1048576 w)
  have H1 := Lib.hid (fun w => between_eq b.burst 0 1048576 w)
  have H2 := Lib.hid (fun w => between_eq b.exc 0 1048576 w)
  have H3 := Lib.hid (fun w => between_eq b.fst 0 b.burst w)
  have H4 := Lib.hid (fun w => between_eq b.snd 0 b.exc w)
  have H5 := Lib.hid (fun w => between_eq b.tm 0 1099511627776 w)
  generalize b.right = R at *
  unfold Mt.cells
  obtain ⟨rate, burst, exc, fst, snd, tm⟩ := b
  dsimp only at *
  generalize btw rate 0 1048576 = J0 at *
  generalize btw burst 0 1048576 = J1 at *
  generalize btw exc 0 1048576 = J2 at *
  generalize btw fst 0 burst = J3 at *
  generalize btw snd 0 exc = J4 at *
  generalize btw tm 0 1099511627776 = J5 at *
  cases J0 with
  | false =>
    go_enter Try.func11, Try.ntmps11
    go_wp2_with (go_at_call 16; first | ((with_reducible refine (H0.out _).mono ?_); rintro e w1 ⟨rfl, rfl⟩))
    go_ret
    exact ⟨ret_bool HX.out.symm, HB.out⟩
  | true =>
    cases J1 with
    | false =>
      go_enter Try.func11, Try.ntmps11
      go_wp2_with (go_at_call 16; first | ((with_reducible refine (H0.out _).mono ?_); rintro e w1 ⟨rfl, rfl⟩) | ((with_reducible refine (H1.out _).mono ?_); rintro e w1 ⟨rfl, rfl⟩))
      go_ret
      exact ⟨ret_bool HX.out.symm, HB.out⟩
    | true =>
      cases J2 with
      | false =>
        go_enter Try.func11, Try.ntmps11
        go_wp2_with (go_at_call 16; first | ((with_reducible refine (H0.out _).mono ?_); rintro e w1 ⟨rfl, rfl⟩) | ((with_reducible refine (H1.out _).mono ?_); rintro e w1 ⟨rfl, rfl⟩) | ((with_reducible refine (H2.out _).mono ?_); rintro e w1 ⟨rfl, rfl⟩))
        go_ret
        exact ⟨ret_bool HX.out.symm, HB.out⟩
      | true =>
        cases J3 with
        | false =>
          go_enter Try.func11, Try.ntmps11
          go_wp2_with (go_at_call 16; first | ((with_reducible refine (H0.out _).mono ?_); rintro e w1 ⟨rfl, rfl⟩) | ((with_reducible refine (H1.out _).mono ?_); rintro e w1 ⟨rfl, rfl⟩) | ((with_reducible refine (H2.out _).mono ?_); rintro e w1 ⟨rfl, rfl⟩) | ((with_reducible refine (H3.out _).mono ?_); rintro e w1 ⟨rfl, rfl⟩))
          go_ret
          exact ⟨ret_bool HX.out.symm, HB.out⟩
        | true =>
          cases J4 with
          | false =>
            go_enter Try.func11, Try.ntmps11
            go_wp2_with (go_at_call 16; first | ((with_reducible refine (H0.out _).mono ?_); rintro e w1 ⟨rfl, rfl⟩) | ((with_reducible refine (H1.out _).mono ?_); rintro e w1 ⟨rfl, rfl⟩) | ((with_reducible refine (H2.out _).mono ?_); rintro e w1 ⟨rfl, rfl⟩) | ((with_reducible refine (H3.out _).mono ?_); rintro e w1 ⟨rfl, rfl⟩) | ((with_reducible refine (H4.out _).mono ?_); rintro e w1 ⟨rfl, rfl⟩))
            go_ret
            exact ⟨ret_bool HX.out.symm, HB.out⟩
          | true =>
            go_enter Try.func11, Try.ntmps11
            go_wp2_with (go_at_call 16; first | ((with_reducible refine (H0.out _).mono ?_); rintro e w1 ⟨rfl, rfl⟩) | ((with_reducible refine (H1.out _).mono ?_); rintro e w1 ⟨rfl, rfl⟩) | ((with_reducible refine (H2.out _).mono ?_); rintro e w1 ⟨rfl, rfl⟩) | ((with_reducible refine (H3.out _).mono ?_); rintro e w1 ⟨rfl, rfl⟩) | ((with_reducible refine (H4.out _).mono ?_); rintro e w1 ⟨rfl, rfl⟩) | ((with_reducible refine (H5.out _).mono ?_); rintro e w1 ⟨rfl, rfl⟩))
            go_ret
            exact ⟨ret_bool HX.out.symm, HB.out⟩
end Go.Proofs.Ytnbjcahhmibmdaa
