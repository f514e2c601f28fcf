/- Contracts of package bucket: between, wrongSize, Right; the reference's IRight. A bucket in a block of its own. -/
import Derived.Test.YtkcfhjbppnchoaaBkMath
import Derived.Test.YtkcfhjbppnchoaaIn1
namespace Go.Proofs.Ytkcfhjbppnchoaa
open Go.RowKit Go.Maps

def Bk.cells (b : Bk) : Array Value := #[.int .i64 b.num, .int .i64 b.den, .int .i64 b.burst, .int .i64 b.lev, .int .i64 b.tm]
/-- A bucket lies in a block of its own. -/
def BkAt (w : World) (q : Nat) (b : Bk) : Prop := w.heap[q]? = some (.cells b.cells 23 (0, 0))
namespace BkAt
variable {w w' : World} {q : Nat} {b : Bk}
theorem lt (h : BkAt w q b) : q < w.heap.size := (Array.getElem?_eq_some_iff.1 h).1
theorem below (h : BkAt w q b) (hb : Below w.heap.size w w') : BkAt w' q b := (hb.block q h.lt).trans h
theorem cells (h : BkAt w q b) : w.cell? ⟨q, 0, none⟩ = some (.int .i64 b.num) ∧ w.cell? ⟨q, 1, none⟩ = some (.int .i64 b.den) ∧ w.cell? ⟨q, 2, none⟩ = some (.int .i64 b.burst) ∧ w.cell? ⟨q, 3, none⟩ = some (.int .i64 b.lev) ∧ w.cell? ⟨q, 4, none⟩ = some (.int .i64 b.tm) :=
  ⟨cell_of_row _ _ 0 _ _ _ h, cell_of_row _ _ 1 _ _ _ h, cell_of_row _ _ 2 _ _ _ h, cell_of_row _ _ 3 _ _ _ h, cell_of_row _ _ 4 _ _ _ h⟩
theorem new (w : World) (b : Bk) : BkAt (w.alloc (.cells b.cells 23)) w.heap.size b := heap_alloc_new w _
theorem frozen (h : BkAt w q b) (j : Nat) : w.frozen? ⟨q, j, none⟩ = false := frozen_of_row w q j _ _ h
theorem stored (h : BkAt w q b) (c : Bk) : BkAt (w.setRow q c.cells) q c := setRow_heap w q _ _ _ _ h
theorem drewN (h : BkAt w q b) (n : Nat) : BkAt (w.drewN n) q b := h
theorem lev (h : BkAt w q b) (x : Int) : BkAt (w.setCell ⟨q, 3, none⟩ (.int .i64 x)) q { b with lev := x } := heap_setCell_same w q 3 _ _ _ h
theorem tm (h : BkAt w q b) (x : Int) : BkAt (w.setCell ⟨q, 4, none⟩ (.int .i64 x)) q { b with tm := x } := heap_setCell_same w q 4 _ _ _ h
theorem other (h : BkAt w q b) (a : Addr) (v : Value) (hne : q ≠ a.block) : BkAt (w.setCell a v) q b := (heap_setCell_other w a q v hne).trans h
end BkAt
theorem below_setRow {B : Nat} {a w : World} (h : Below B a w) {g : Nat} (hg : B ≤ g) (cs : Array Value) : Below B a (w.setRow g cs) :=
  ⟨h.os, h.tape, h.output, by simpa using h.size, fun k hk => (setRow_other w g k cs (by omega)).trans (h.block k hk)⟩
theorem info_bucket : (Try.prog.info? 23).map (·.size) = some 5 := by kernel_rfl
theorem one_bucket (b : Bk) : (b.cells.all fun x => x.oneCell') = true := by simp [Bk.cells, Value.oneCell']
/-- A bucket's store, load and result, as one step each. -/
theorem wpList_store_bk {ops : Array Oper} {rest : List Oper} {o : Oper} {a : Act} {w : World} {Q : Exit → Act → World → Prop} (hgd : o.guard = none) (x y : Operand) (ho : o.op = .store 23 x y)
    (g : Nat) (b b0 : Bk) (hx : a.eval x = .pointer (some ⟨g, 0, none⟩)) (hy : a.eval y = .agg b.cells) (hg : BkAt w g b0)
    (k : wpList Try.prog ops Q rest (a.put o.dst undef) (w.setRow g b.cells)) : wpList Try.prog ops Q (o :: rest) a w :=
  wpList_store_row hgd 23 x y ho g b.cells hx hy 23 b0.cells hg info_bucket rfl (one_bucket b) k
theorem wpList_load_bk {ops : Array Oper} {rest : List Oper} {o : Oper} {a : Act} {w : World} {Q : Exit → Act → World → Prop} (hgd : o.guard = none) (x : Operand) (ho : o.op = .load 23 x)
    (g : Nat) (b : Bk) (hx : a.eval x = .pointer (some ⟨g, 0, none⟩)) (hg : BkAt w g b)
    (k : wpList Try.prog ops Q rest (a.put o.dst (.agg b.cells)) w) : wpList Try.prog ops Q (o :: rest) a w :=
  wpList_load_row hgd 23 x ho g hx 23 b.cells (0, 0) _ hg Try.underlying23 rfl info_bucket k
theorem results_bk2 {fn : Func} (p u : Tmp) (h : fn.results = #[.cell p 23, .tmp u]) (tmps : Array Value) (w : World) {g : Nat} {b : Bk} (hp : tmps.getD p undef = .pointer (some ⟨g, 0, none⟩)) (hq : BkAt w g b) :
    (results fn tmps).run Try.prog w = .ok (.tuple #[.agg b.cells, tmps.getD u undef]) w := by
  have hp' : tmps[p]?.getD undef = .pointer (some ⟨g, 0, none⟩) := by simpa using hp
  simp only [results, h]
  simp [Result.andThen, hp', asAddr, run_loadVar_row w g 23 23 _ _ _ hq Try.underlying23 rfl info_bucket]
theorem results_bk3 {fn : Func} (p u v : Tmp) (h : fn.results = #[.cell p 23, .tmp u, .tmp v]) (tmps : Array Value) (w : World) {g : Nat} {b : Bk} (hp : tmps.getD p undef = .pointer (some ⟨g, 0, none⟩)) (hq : BkAt w g b) :
    (results fn tmps).run Try.prog w = .ok (.tuple #[.agg b.cells, tmps.getD u undef, tmps.getD v undef]) w := by
  have hp' : tmps[p]?.getD undef = .pointer (some ⟨g, 0, none⟩) := by simpa using hp
  simp only [results, h]
  simp [Result.andThen, hp', asAddr, run_loadVar_row w g 23 23 _ _ _ hq Try.underlying23 rfl info_bucket]
theorem results_bk_mid {fn : Func} (p u v : Tmp) (h : fn.results = #[.tmp u, .cell p 23, .tmp v]) (tmps : Array Value) (w : World) {g : Nat} {b : Bk} (hp : tmps.getD p undef = .pointer (some ⟨g, 0, none⟩)) (hq : BkAt w g b) :
    (results fn tmps).run Try.prog w = .ok (.tuple #[tmps.getD u undef, .agg b.cells, tmps.getD v undef]) w := by
  have hp' : tmps[p]?.getD undef = .pointer (some ⟨g, 0, none⟩) := by simpa using hp
  simp only [results, h]
  simp [Result.andThen, hp', asAddr, run_loadVar_row w g 23 23 _ _ _ hq Try.underlying23 rfl info_bucket]

set_option maxHeartbeats 1000000 in
theorem between_eq (n l h : Int) (w : World) :
    Calls Try.prog 21 #[.int .i64 n, .int .i64 l, .int .i64 h] w fun e w' => e = .returned (.bool (btw n l h)) ∧ w = w' := by
  unfold btw
  by_cases c : l ≤ n
  · go_enter Try.func21, Try.ntmps21
    go_wp2
    go_ret
    exact ⟨ret_bool (by simp [c]), rfl⟩
  · go_enter Try.func21, Try.ntmps21
    go_wp2
    go_ret
    exact ⟨ret_bool (by simp; omega), rfl⟩
set_option maxHeartbeats 1000000 in
theorem wrongSize_eq (n : Int) (w : World) :
    Calls Try.prog 22 #[.int .i64 n] w fun e w' => e = .returned (.bool (!btw n 0 1048576)) ∧ w = w' := by
  have H := Lib.hid (fun w => between_eq n 0 1048576 w)
  generalize btw n 0 1048576 = J at *
  go_enter Try.func22, Try.ntmps22
  go_wp2_with fail
  refine (H.out _).mono ?_
  rintro e w1 ⟨rfl, rfl⟩
  go_wp2_with fail
  go_ret
  exact ⟨rfl, rfl⟩

theorem right_no {b : Bk} {j0 j1 j2 j3 j4 : Bool} (h0 : btw b.num 0 1048576 = j0) (h1 : btw b.burst 0 1048576 = j1) (h2 : btw b.den 1 1048576 = j2) (h3 : btw b.lev 0 (b.burst * b.den) = j3) (h4 : btw b.tm 0 1099511627776 = j4) : b.right = (j0 && (j1 && (j2 && (j3 && j4)))) := by
  unfold Bk.right
  rw [h0, h1, h2, h3, h4]
theorem wrap_i64 {x : Int} (h0 : -9223372036854775808 ≤ x) (h1 : x ≤ 9223372036854775807) : IntKind.i64.wrap x = x := by
  simp [IntKind.wrap, IntKind.bits, IntKind.signed]
  omega
theorem w64 {x : Int} (h0 : -9223372036854775808 ≤ x) (h1 : x ≤ 9223372036854775807) : wrap64 x = x := IntWalk.wrap64_in x ⟨h0, h1⟩
theorem wrap_most {b : Bk} (h1 : btw b.burst 0 1048576 = true) (h2 : btw b.den 1 1048576 = true) : IntKind.i64.wrap (b.burst * b.den) = b.burst * b.den := by
  obtain ⟨a, c⟩ := btw_true.1 h1
  obtain ⟨d, e⟩ := btw_true.1 h2
  have := mul_le_of a c (show 0 ≤ b.den by omega) e
  exact wrap_i64 (by omega) (by omega)

set_option maxRecDepth 100000 in
set_option maxHeartbeats 8000000 in
theorem right_any (b : Bk) (w : World) :
    Calls Try.prog 14 #[.agg b.cells] w fun e w' => e = .returned (.bool b.right) ∧ Below w.heap.size w w' := by
  have HX := Lib.hid (right_no (b := b) rfl rfl rfl rfl rfl)
  have HB := Lib.hid ((Below.refl w.heap.size w).alloc (Nat.le_refl _) (.cells #[.int .i64 b.num, .int .i64 b.den, .int .i64 b.burst, .int .i64 b.lev, .int .i64 b.tm] 23))
  have H0 := Lib.hid (fun w => between_eq b.num 0 1048576 w)
  have H1 := Lib.hid (fun w => between_eq b.burst 0 1048576 w)
  have H2 := Lib.hid (fun w => between_eq b.den 1 1048576 w)
  have H3 := Lib.hid (fun w => between_eq b.lev 0 (b.burst * b.den) w)
  have H4 := Lib.hid (fun w => between_eq b.tm 0 1099511627776 w)
  have HW := Lib.hid (fun h1 h2 => wrap_most (b := b) h1 h2)
  generalize b.right = R at *
  unfold Bk.cells
  obtain ⟨num, den, burst, lev, tm⟩ := b
  dsimp only at *
  generalize btw num 0 1048576 = J0 at *
  generalize btw burst 0 1048576 = J1 at *
  generalize btw den 1 1048576 = J2 at *
  generalize btw lev 0 (burst * den) = J3 at *
  generalize btw tm 0 1099511627776 = J4 at *
  cases J0 with
  | false =>
    go_enter Try.func14, Try.ntmps14
    go_wp2_with (go_at_call 21; ((with_reducible refine (H0.out _).mono ?_); rintro e w1 ⟨rfl, rfl⟩))
    go_ret
    exact ⟨ret_bool HX.out.symm, HB.out⟩
  | true =>
    cases J1 with
    | false =>
      go_enter Try.func14, Try.ntmps14
      go_wp2_with (go_at_call 21; first | ((with_reducible refine (H0.out _).mono ?_); rintro e w1 ⟨rfl, rfl⟩) | ((with_reducible refine (H1.out _).mono ?_); rintro e w1 ⟨rfl, rfl⟩))
      go_ret
      exact ⟨ret_bool HX.out.symm, HB.out⟩
    | true =>
      cases J2 with
      | false =>
        go_enter Try.func14, Try.ntmps14
        go_wp2_with (go_at_call 21; first | ((with_reducible refine (H0.out _).mono ?_); rintro e w1 ⟨rfl, rfl⟩) | ((with_reducible refine (H1.out _).mono ?_); rintro e w1 ⟨rfl, rfl⟩) | ((with_reducible refine (H2.out _).mono ?_); rintro e w1 ⟨rfl, rfl⟩))
        go_ret
        exact ⟨ret_bool HX.out.symm, HB.out⟩
      | true =>
        have hw := HW.out rfl rfl
        cases J3 with
        | false =>
          go_enter Try.func14, Try.ntmps14
          go_wp2_with (go_at_call 21; first | ((with_reducible refine (H0.out _).mono ?_); rintro e w1 ⟨rfl, rfl⟩) | ((with_reducible refine (H1.out _).mono ?_); rintro e w1 ⟨rfl, rfl⟩) | ((with_reducible refine (H2.out _).mono ?_); rintro e w1 ⟨rfl, rfl⟩) | ((with_reducible refine (H3.out _).mono ?_); rintro e w1 ⟨rfl, rfl⟩))
          go_ret
          exact ⟨ret_bool HX.out.symm, HB.out⟩
        | true =>
          go_enter Try.func14, Try.ntmps14
          go_wp2_with (go_at_call 21; first | ((with_reducible refine (H0.out _).mono ?_); rintro e w1 ⟨rfl, rfl⟩) | ((with_reducible refine (H1.out _).mono ?_); rintro e w1 ⟨rfl, rfl⟩) | ((with_reducible refine (H2.out _).mono ?_); rintro e w1 ⟨rfl, rfl⟩) | ((with_reducible refine (H3.out _).mono ?_); rintro e w1 ⟨rfl, rfl⟩) | ((with_reducible refine (H4.out _).mono ?_); rintro e w1 ⟨rfl, rfl⟩))
          go_ret
          exact ⟨ret_bool HX.out.symm, HB.out⟩
end Go.Proofs.Ytkcfhjbppnchoaa
