/- head.Read. -/
import Derived.Test.YtmigfemkbdehbaaHd3
import Derived.Deep.RegionHeld3
import Derived.Deep.DeepCutAuto
import Derived.Laws.Tables
import Derived.Laws.Rows
import Derived.Laws.CopyOwn
import Derived.Laws.ResultCell
namespace Go.Proofs.Ytmigfemkbdehbaa
open Go.RowKit Go.Maps

theorem info_head : (Try.prog.info? 24).map (·.size) = some 13 := by kernel_rfl
/-- A header lies in a block of its own. -/
def HeadAt (w : World) (q : Nat) (h : Hd) : Prop := w.heap[q]? = some (.cells h.cells.toArray 24 (0, 0))
theorem HeadAt.below {B : Nat} {w w' : World} {q : Nat} {h : Hd} (hq : HeadAt w q h) (hb : Below B w w') (hl : q < B) : HeadAt w' q h := (hb.block q hl).trans hq
theorem headAt_new (w : World) (h : Hd) : HeadAt (w.alloc (.cells h.cells.toArray 24)) w.heap.size h := heap_alloc_new w _
theorem HeadAt.lt {w : World} {q : Nat} {h : Hd} (hq : HeadAt w q h) : q < w.heap.size := (Array.getElem?_eq_some_iff.1 hq).1
theorem HeadAt.stored {w : World} {q : Nat} {h : Hd} (hq : HeadAt w q h) (h' : Hd) : HeadAt (w.setRow q h'.cells.toArray) q h' := setRow_heap w q _ _ _ _ hq
theorem one_cells (h : Hd) : (h.cells.toArray.all fun x => x.oneCell') = true := by simp [Hd.cells, Value.oneCell']
theorem wpList_store_head {ops : Array Oper} {rest : List Oper} {o : Oper} {a : Act} {w : World} {Q : Exit → Act → World → Prop} (hgd : o.guard = none) (x y : Operand) (ho : o.op = .store 24 x y)
    (g : Nat) (h h0 : Hd) (hx : a.eval x = .pointer (some ⟨g, 0, none⟩)) (hy : a.eval y = .agg h.cells.toArray) (hg : HeadAt w g h0)
    (k : wpList Try.prog ops Q rest (a.put o.dst undef) (w.setRow g h.cells.toArray)) : wpList Try.prog ops Q (o :: rest) a w :=
  wpList_store_row hgd 24 x y ho g h.cells.toArray hx hy 24 h0.cells.toArray hg info_head rfl (one_cells h) k
theorem wpList_load_head {ops : Array Oper} {rest : List Oper} {o : Oper} {a : Act} {w : World} {Q : Exit → Act → World → Prop} (hgd : o.guard = none) (x : Operand) (ho : o.op = .load 24 x)
    (g : Nat) (h : Hd) (hx : a.eval x = .pointer (some ⟨g, 0, none⟩)) (hg : HeadAt w g h)
    (k : wpList Try.prog ops Q rest (a.put o.dst (.agg h.cells.toArray)) w) : wpList Try.prog ops Q (o :: rest) a w :=
  wpList_load_row hgd 24 x ho g hx 24 h.cells.toArray (0, 0) _ hg Try.underlying24 rfl info_head k
theorem wp_store_head {o : Oper} {a : Act} {w : World} {K : Act → World → Prop} {Q : Exit → Act → World → Prop} (x y : Operand) (ho : o.op = .store 24 x y)
    (g : Nat) (h h0 : Hd) (hx : a.eval x = .pointer (some ⟨g, 0, none⟩)) (hy : a.eval y = .agg h.cells.toArray) (hg : HeadAt w g h0)
    (k : K (a.put o.dst undef) (w.setRow g h.cells.toArray)) : o.wp Try.prog a w K Q :=
  wp_store_row 24 x y ho g h.cells.toArray hx hy 24 h0.cells.toArray hg info_head rfl (one_cells h) k
theorem HeadAt.cell {w : World} {q : Nat} {h : Hd} (hq : HeadAt w q h) (i : Nat) : w.cell? ⟨q, i, none⟩ = h.cells.toArray[i]? := cell_of_row w q i _ _ _ hq
theorem HeadAt.froz {w : World} {q : Nat} {h : Hd} (hq : HeadAt w q h) (i : Nat) : w.frozen? ⟨q, i, none⟩ = false := frozen_of_row w q i _ _ hq
theorem HeadAt.sp {w : World} {q : Nat} {h : Hd} (hq : HeadAt w q h) (x : Int) : HeadAt (w.setCell ⟨q, 9, none⟩ (.int .i64 x)) q { h with sp := x } := heap_setCell_same w q 9 _ _ _ hq
theorem HeadAt.dp {w : World} {q : Nat} {h : Hd} (hq : HeadAt w q h) (x : Int) : HeadAt (w.setCell ⟨q, 10, none⟩ (.int .i64 x)) q { h with dp := x } := heap_setCell_same w q 10 _ _ _ hq
theorem HeadAt.drewN {w : World} {q : Nat} {h : Hd} (hq : HeadAt w q h) (m : Nat) : HeadAt (w.drewN m) q h := hq
theorem HeadAt.other {w : World} {q : Nat} {h : Hd} (hq : HeadAt w q h) (a : Addr) (v : Value) (hne : q ≠ a.block) : HeadAt (w.setCell a v) q h := (heap_setCell_other w a q v hne).trans hq
/-- .. an operation that waits for a test, which said yes. -/
theorem wpList_load_want {ops : Array Oper} {rest : List Oper} {o : Oper} {a : Act} {w : World} {Q : Exit → Act → World → Prop} (hgd : Region.wanted o (yielded ops a.tmps) = true) (x : Operand) (ho : o.op = .load 24 x)
    (g : Nat) (h : Hd) (hx : a.eval x = .pointer (some ⟨g, 0, none⟩)) (hg : HeadAt w g h)
    (k : wpList Try.prog ops Q rest (a.put o.dst (.agg h.cells.toArray)) w) : wpList Try.prog ops Q (o :: rest) a w :=
  BigFrame.wpList_want hgd fun _ hK => wp_load_row 24 x ho g hx 24 h.cells.toArray (0, 0) _ hg Try.underlying24 rfl info_head (hK _ _ k)
theorem results_head {fn : Func} {p u : Tmp} (h : fn.results = #[.cell p 24, .tmp u]) (tmps : Array Value) (w : World) {g : Nat} {x : Hd} (hp : tmps.getD p undef = .pointer (some ⟨g, 0, none⟩)) (hq : HeadAt w g x) :
    (results fn tmps).run Try.prog w = .ok (.tuple #[.agg x.cells.toArray, tmps.getD u undef]) w := by
  rw [results_cell_tmp h]
  have hp' : tmps[p]?.getD undef = .pointer (some ⟨g, 0, none⟩) := by simpa using hp
  simp [hp', asAddr, run_loadVar_row w g 24 24 _ _ _ hq Try.underlying24 rfl info_head]

theorem read_old {w : World} {q : Nat} {h : Hd} (hq : HeadAt w q h) (m : Nat) (o : Obj) (cs : Array Value) : HeadAt (((w.drewN m).alloc o).setRow (q + 1) cs) q h :=
  (setRow_other _ (q + 1) q cs (by omega)).trans ((((Below.refl (w.drewN m).heap.size (w.drewN m)).alloc (Nat.le_refl _) o).block q hq.lt).trans hq)
def heads0 (bs : List Int) : Hd := ⟨nth bs 12, nth bs 13, nth bs 14, nth bs 15, nth bs 16, nth bs 17, nth bs 18, nth bs 19, nth bs 9, 0, 0, wordAt bs 2, nth bs 1 / 4⟩
theorem arr_run (w : World) (A : Option Addr) (c : Nat) : (Instr.arrayAt 22 (.slice A 4 c)).run Try.prog w = .ok (.pointer A) w := by
  simp [Instr.arrayAt, run_underlying Try.underlying22]

set_option maxRecDepth 100000 in
set_option maxHeartbeats 2000000 in
theorem read_bad {w : World} {A : Option Addr} {bs : List Int} (h : Lies w A bs) {cap : Nat} (hc : bs.length ≤ cap) (hr : unread bs ≠ 0) :
    Calls Try.prog 10 #[.slice A bs.length cap] w fun e w' => e = .returned (.tuple #[.agg Hd.none.cells.toArray, .int .i64 (unread bs)]) ∧ Below w.heap.size w w' := by
  have ha : Below w.heap.size w (w.alloc (.cells Hd.none.cells.toArray 24)) := (Below.refl _ _).alloc (Nat.le_refl _) _
  have H1 := Lib.hid (unreadable_any (h.below ha) hc)
  have hB : ∀ m, Below w.heap.size w ((w.alloc (.cells Hd.none.cells.toArray 24)).drewN m) := fun m => below_drewN ha m
  have hA : ∀ m, HeadAt ((w.alloc (.cells Hd.none.cells.toArray 24)).drewN m) w.heap.size Hd.none := fun m => headAt_new w _
  have HX := Lib.hid (And.intro hA hB)
  generalize unread bs = R at *
  generalize bs.length = n at *
  have hr' : (R != 0) = true := by simpa using hr
  clear h ha hr hA hB
  go_enter Try.func10, Try.ntmps10
  go_wp2_with fail
  refine H1.out.mono ?_
  rintro e w1 ⟨rfl, m, hw1⟩
  have hq := HX.out.1 m
  have hb := HX.out.2 m
  rw [← hw1] at hq hb
  have HB := Lib.hid (And.intro (hq.stored Hd.none) (below_setRow hb (Nat.le_refl _) Hd.none.cells.toArray))
  have HQ := Lib.hid hq
  clear hw1 HX H1 hq hb
  go_wp2_with (refine wpList_store_head rfl (.tmp 2) (.tmp 10) rfl w.heap.size Hd.none Hd.none rfl rfl HQ.out ?_)
  refine bodyPost_ret_by (results_head rfl _ _ rfl HB.out.1) rfl ⟨rfl, HB.out.2⟩

set_option maxRecDepth 100000 in
set_option maxHeartbeats 2000000 in
theorem read_good {w : World} {b off : Nat} {bs : List Int} (h : Lies w (some ⟨b, off, none⟩) bs) {cap : Nat} (hc : bs.length ≤ cap) (hr : unread bs = 0) :
    Calls Try.prog 10 #[.slice (some ⟨b, off, none⟩) bs.length cap] w fun e w' => e = .returned (.tuple #[.agg (heads bs).cells.toArray, .int .i64 0]) ∧ Below w.heap.size w w' := by
  have ha : Below w.heap.size w (w.alloc (.cells Hd.none.cells.toArray 24)) := (Below.refl _ _).alloc (Nat.le_refl _) _
  have H1 := unreadable_any (h.below ha) hc
  rw [hr] at H1
  have H1' := Lib.hid H1
  have hB : ∀ m, Below w.heap.size w ((w.alloc (.cells Hd.none.cells.toArray 24)).drewN m) := fun m => below_drewN ha m
  have hA : ∀ m, HeadAt ((w.alloc (.cells Hd.none.cells.toArray 24)).drewN m) w.heap.size Hd.none := fun m => headAt_new w _
  have HX := Lib.hid (And.intro hA hB)
  obtain ⟨g1, g2, g3, g4, g5, g6, g7, g8⟩ := readable.1 hr
  have H2 := Lib.hid (fun W (hW : Below w.heap.size w W) => word_any (h.below hW) cap (i := 2) (by omega))
  have hcell : ∀ i, i < 20 → w.cell? ⟨b, off + i, none⟩ = some (.int .u8 (nth bs i)) ∧ 0 ≤ nth bs i ∧ nth bs i < 256 := fun i hi => by
    obtain ⟨b', off', e, c, c2⟩ := h.nth (i := i) (by omega)
    injection e with e
    injection e with e1 e2
    subst e1 e2
    exact ⟨c, c2⟩
  have hbl : b < w.heap.size := by
    obtain ⟨b', off', e, c, c2⟩ := h.at_ (by omega)
    injection e with e
    injection e with e1 e2
    subst e1 e2
    exact c
  clear H1 ha hA hB
  go_enter Try.func10, Try.ntmps10
  go_wp2_with fail
  refine H1'.out.mono ?_
  rintro e w1 ⟨rfl, m, hw1⟩
  have hq := HX.out.1 m
  have hb := HX.out.2 m
  have hsz : w1.heap.size = w.heap.size + 1 := by rw [hw1]; show (w.alloc _).heap.size = _; simp
  rw [← hw1] at hq hb
  have hS : ∀ W, Below w.heap.size w W → (W.cell? ⟨b, off + 1, none⟩ = some (.int .u8 (nth bs 1)) ∧ W.cell? ⟨b, off + 9, none⟩ = some (.int .u8 (nth bs 9)) ∧ W.cell? ⟨b, off + 12, none⟩ = some (.int .u8 (nth bs 12)) ∧ W.cell? ⟨b, off + 13, none⟩ = some (.int .u8 (nth bs 13)) ∧ W.cell? ⟨b, off + 14, none⟩ = some (.int .u8 (nth bs 14)) ∧ W.cell? ⟨b, off + 15, none⟩ = some (.int .u8 (nth bs 15)) ∧ W.cell? ⟨b, off + 16, none⟩ = some (.int .u8 (nth bs 16)) ∧ W.cell? ⟨b, off + 17, none⟩ = some (.int .u8 (nth bs 17)) ∧ W.cell? ⟨b, off + 18, none⟩ = some (.int .u8 (nth bs 18)) ∧ W.cell? ⟨b, off + 19, none⟩ = some (.int .u8 (nth bs 19))) := fun W hW => by
    have hce : ∀ i, i < 20 → W.cell? ⟨b, off + i, none⟩ = some (.int .u8 (nth bs i)) := fun i hi => (hW.cell (p := ⟨b, off + i, none⟩) hbl).trans (hcell i hi).1
    exact ⟨hce 1 (by omega), hce 9 (by omega), hce 12 (by omega), hce 13 (by omega), hce 14 (by omega), hce 15 (by omega), hce 16 (by omega), hce 17 (by omega), hce 18 (by omega), hce 19 (by omega)⟩
  have HS := Lib.hid hS
  have HB := Lib.hid hb
  have k1 : (20 : Int) ≤ (cap : Int) := by omega
  have k2 : ¬ cap = 12 := by omega
  have k3 : ¬ cap = 16 := by omega
  have k4 : (9 : Int) < (bs.length : Int) := by omega
  have k5 : (1 : Int) < (bs.length : Int) := by omega
  have k6 : (16 : Int) ≤ (cap : Int) := by omega
  have hArr := arr_run
  have hle : w.heap.size ≤ w1.heap.size := by omega
  have HW := Lib.hid (wordAt_half h.bytes 2)
  obtain ⟨y1a, y1b⟩ := (hcell 1 (by omega)).2
  obtain ⟨y9a, y9b⟩ := (hcell 9 (by omega)).2
  obtain ⟨y12a, y12b⟩ := (hcell 12 (by omega)).2
  obtain ⟨y13a, y13b⟩ := (hcell 13 (by omega)).2
  obtain ⟨y14a, y14b⟩ := (hcell 14 (by omega)).2
  obtain ⟨y15a, y15b⟩ := (hcell 15 (by omega)).2
  obtain ⟨y16a, y16b⟩ := (hcell 16 (by omega)).2
  obtain ⟨y17a, y17b⟩ := (hcell 17 (by omega)).2
  obtain ⟨y18a, y18b⟩ := (hcell 18 (by omega)).2
  obtain ⟨y19a, y19b⟩ := (hcell 19 (by omega)).2
  have hw9 := wraps_i64 (nth bs 9) (by omega) (by omega)
  have hwm := wraps_i64 (nth bs 1 / 4) (by omega) (by omega)
  have hq1 : ∀ m, HeadAt ((w1.drewN m).alloc (.cells Hd.none.cells.toArray 24)) (w.heap.size + 1) Hd.none := fun m => by
    have := headAt_new (w1.drewN m) Hd.none
    rwa [show (w1.drewN m).heap.size = w.heap.size + 1 from hsz] at this
  have HQ := Lib.hid (And.intro hq hq1)
  clear hq hq1
  have HL := Lib.hid (fun W (hW : Below w.heap.size w W) => h.below hW)
  clear hw1 hS hb hcell H1' HX h
  go_upto_region 4 with fail
  go_cut [5] (fun v wx => Hid (v = .pointer (some ⟨w.heap.size + 1, 0, none⟩) ∧ HeadAt wx (w.heap.size + 1) (heads0 bs) ∧ HeadAt wx w.heap.size Hd.none ∧ Below w.heap.size w wx))
  case first =>
    refine wp_region_held_drew (S := (fun W => W.cell? ⟨b, off + 1, none⟩ = some (.int .u8 (nth bs 1)) ∧ W.cell? ⟨b, off + 9, none⟩ = some (.int .u8 (nth bs 9)) ∧ W.cell? ⟨b, off + 12, none⟩ = some (.int .u8 (nth bs 12)) ∧ W.cell? ⟨b, off + 13, none⟩ = some (.int .u8 (nth bs 13)) ∧ W.cell? ⟨b, off + 14, none⟩ = some (.int .u8 (nth bs 14)) ∧ W.cell? ⟨b, off + 15, none⟩ = some (.int .u8 (nth bs 15)) ∧ W.cell? ⟨b, off + 16, none⟩ = some (.int .u8 (nth bs 16)) ∧ W.cell? ⟨b, off + 17, none⟩ = some (.int .u8 (nth bs 17)) ∧ W.cell? ⟨b, off + 18, none⟩ = some (.int .u8 (nth bs 18)) ∧ W.cell? ⟨b, off + 19, none⟩ = some (.int .u8 (nth bs 19)))) (by kernel_rfl) (HS.out _ HB.out.drew) (fun hHeld => ?_)
    refine wpAnyH_take (i := 0) (v := ?_) (by simp only [List.getElem?_toArray, List.getElem?_cons_zero] <;> rfl) (by kernel_rfl) (by kernel_rfl) (by kernel_rfl) (by exact fun _ _ _ h => h) (Or.inl ⟨by rfl, ?_⟩) hHeld ?_
    rotate_left
    · intro w hSw; (try dsimp only at hSw); go_simp; (try with_reducible rfl)
    (try simp only [Act.put, List.setIfInBounds_toArray, List.set_cons_zero, List.set_cons_succ])
    refine wpAnyH_take (i := 1) (v := ?_) (by simp only [List.getElem?_toArray, List.getElem?_cons_succ, List.getElem?_cons_zero] <;> rfl) (by kernel_rfl) (by kernel_rfl) (by kernel_rfl) (by exact fun _ _ _ h => h) (Or.inl ⟨by rfl, ?_⟩) hHeld ?_
    rotate_left
    · intro w hSw; (try dsimp only at hSw); go_simp; (try with_reducible rfl)
    (try simp only [Act.put, List.setIfInBounds_toArray, List.set_cons_zero, List.set_cons_succ])
    refine wpAnyH_take (i := 2) (v := ?_) (by simp only [List.getElem?_toArray, List.getElem?_cons_succ, List.getElem?_cons_zero] <;> rfl) (by kernel_rfl) (by kernel_rfl) (by kernel_rfl) (by exact fun _ _ _ h => h) (Or.inl ⟨by rfl, ?_⟩) hHeld ?_
    rotate_left
    · intro w hSw; (try dsimp only at hSw); go_simp; (try with_reducible rfl)
    (try simp only [Act.put, List.setIfInBounds_toArray, List.set_cons_zero, List.set_cons_succ])
    refine wpAnyH_take (i := 3) (v := ?_) (by simp only [List.getElem?_toArray, List.getElem?_cons_succ, List.getElem?_cons_zero] <;> rfl) (by kernel_rfl) (by kernel_rfl) (by kernel_rfl) (by exact fun _ _ _ h => h) (Or.inl ⟨by rfl, ?_⟩) hHeld ?_
    rotate_left
    · intro w hSw; (try dsimp only at hSw); go_simp; (try with_reducible rfl)
    (try simp only [Act.put, List.setIfInBounds_toArray, List.set_cons_zero, List.set_cons_succ])
    refine wpAnyH_take (i := 4) (v := ?_) (by simp only [List.getElem?_toArray, List.getElem?_cons_succ, List.getElem?_cons_zero] <;> rfl) (by kernel_rfl) (by kernel_rfl) (by kernel_rfl) (by exact fun _ _ _ h => h) (Or.inl ⟨by rfl, ?_⟩) hHeld ?_
    rotate_left
    · intro w hSw; (try dsimp only at hSw); go_simp; (try with_reducible rfl)
    (try simp only [Act.put, List.setIfInBounds_toArray, List.set_cons_zero, List.set_cons_succ])
    refine wpAnyH_take (i := 5) (v := ?_) (by simp only [List.getElem?_toArray, List.getElem?_cons_succ, List.getElem?_cons_zero] <;> rfl) (by kernel_rfl) (by kernel_rfl) (by kernel_rfl) (by exact fun _ _ _ h => h) (Or.inl ⟨by rfl, ?_⟩) hHeld ?_
    rotate_left
    · intro w hSw; (try dsimp only at hSw); go_simp; (try with_reducible rfl)
    (try simp only [Act.put, List.setIfInBounds_toArray, List.set_cons_zero, List.set_cons_succ])
    refine wpAnyH_take (i := 6) (v := ?_) (by simp only [List.getElem?_toArray, List.getElem?_cons_succ, List.getElem?_cons_zero] <;> rfl) (by kernel_rfl) (by kernel_rfl) (by kernel_rfl) (by exact fun _ _ _ h => h) (Or.inl ⟨by rfl, ?_⟩) hHeld ?_
    rotate_left
    · intro w hSw; (try dsimp only at hSw); go_simp; (try with_reducible rfl)
    (try simp only [Act.put, List.setIfInBounds_toArray, List.set_cons_zero, List.set_cons_succ])
    refine wpAnyH_take (i := 7) (v := ?_) (by simp only [List.getElem?_toArray, List.getElem?_cons_succ, List.getElem?_cons_zero] <;> rfl) (by kernel_rfl) (by kernel_rfl) (by kernel_rfl) (by exact fun _ _ _ h => h) (Or.inl ⟨by rfl, ?_⟩) hHeld ?_
    rotate_left
    · intro w hSw; (try dsimp only at hSw); go_simp; (try with_reducible rfl)
    (try simp only [Act.put, List.setIfInBounds_toArray, List.set_cons_zero, List.set_cons_succ])
    refine wpAnyH_take (i := 8) (v := ?_) (by simp only [List.getElem?_toArray, List.getElem?_cons_succ, List.getElem?_cons_zero] <;> rfl) (by kernel_rfl) (by kernel_rfl) (by kernel_rfl) (by exact fun _ _ _ h => h) (Or.inl ⟨by rfl, ?_⟩) hHeld ?_
    rotate_left
    · intro w hSw; (try dsimp only at hSw); go_simp; (try with_reducible rfl)
    (try simp only [Act.put, List.setIfInBounds_toArray, List.set_cons_zero, List.set_cons_succ])
    refine wpAnyH_take (i := 9) (v := ?_) (by simp only [List.getElem?_toArray, List.getElem?_cons_succ, List.getElem?_cons_zero] <;> rfl) (by kernel_rfl) (by kernel_rfl) (by kernel_rfl) (by exact fun _ _ _ h => h) (Or.inl ⟨by rfl, ?_⟩) hHeld ?_
    rotate_left
    · intro w hSw; (try dsimp only at hSw); go_simp; (try with_reducible rfl)
    (try simp only [Act.put, List.setIfInBounds_toArray, List.set_cons_zero, List.set_cons_succ])
    refine wpAnyH_take (i := 10) (v := ?_) (by simp only [List.getElem?_toArray, List.getElem?_cons_succ, List.getElem?_cons_zero] <;> rfl) (by kernel_rfl) (by kernel_rfl) (by kernel_rfl) (by exact fun _ _ _ h => h) (Or.inl ⟨by rfl, ?_⟩) hHeld ?_
    rotate_left
    · intro w hSw; (try dsimp only at hSw); go_simp; (try with_reducible rfl)
    (try simp only [Act.put, List.setIfInBounds_toArray, List.set_cons_zero, List.set_cons_succ])
    refine wpAnyH_take (i := 11) (v := ?_) (by simp only [List.getElem?_toArray, List.getElem?_cons_succ, List.getElem?_cons_zero] <;> rfl) (by kernel_rfl) (by kernel_rfl) (by kernel_rfl) (by exact fun _ _ _ h => h) (Or.inl ⟨by rfl, ?_⟩) hHeld ?_
    rotate_left
    · intro w hSw; (try dsimp only at hSw); go_simp; (try with_reducible rfl)
    (try simp only [Act.put, List.setIfInBounds_toArray, List.set_cons_zero, List.set_cons_succ])
    refine wpAnyH_take (i := 12) (v := ?_) (by simp only [List.getElem?_toArray, List.getElem?_cons_succ, List.getElem?_cons_zero] <;> rfl) (by kernel_rfl) (by kernel_rfl) (by kernel_rfl) (by exact fun _ _ _ h => h) (Or.inl ⟨by rfl, ?_⟩) hHeld ?_
    rotate_left
    · intro w hSw; (try dsimp only at hSw); go_simp; (try with_reducible rfl)
    (try simp only [Act.put, List.setIfInBounds_toArray, List.set_cons_zero, List.set_cons_succ])
    refine wpAnyH_take (i := 14) (v := ?_) (by simp only [List.getElem?_toArray, List.getElem?_cons_succ, List.getElem?_cons_zero] <;> rfl) (by kernel_rfl) (by kernel_rfl) (by kernel_rfl) (by exact fun _ _ _ h => h) (Or.inl ⟨by rfl, ?_⟩) hHeld ?_
    rotate_left
    · intro w hSw; (try dsimp only at hSw); go_simp; (try with_reducible rfl)
    (try simp only [Act.put, List.setIfInBounds_toArray, List.set_cons_zero, List.set_cons_succ])
    refine wpAnyH_take (i := 15) (v := ?_) (by simp only [List.getElem?_toArray, List.getElem?_cons_succ, List.getElem?_cons_zero] <;> rfl) (by kernel_rfl) (by kernel_rfl) (by kernel_rfl) (by exact fun _ _ _ h => h) (Or.inl ⟨by rfl, ?_⟩) hHeld ?_
    rotate_left
    · intro w hSw; (try dsimp only at hSw); go_simp; (try with_reducible rfl)
    (try simp only [Act.put, List.setIfInBounds_toArray, List.set_cons_zero, List.set_cons_succ])
    refine wpAnyH_take (i := 16) (v := ?_) (by simp only [List.getElem?_toArray, List.getElem?_cons_succ, List.getElem?_cons_zero] <;> rfl) (by kernel_rfl) (by kernel_rfl) (by kernel_rfl) (by exact fun _ _ _ h => h) (Or.inl ⟨by rfl, ?_⟩) hHeld ?_
    rotate_left
    · intro w hSw; (try dsimp only at hSw); go_simp; (try with_reducible rfl)
    (try simp only [Act.put, List.setIfInBounds_toArray, List.set_cons_zero, List.set_cons_succ])
    refine wpAnyH_take (i := 17) (v := ?_) (by simp only [List.getElem?_toArray, List.getElem?_cons_succ, List.getElem?_cons_zero] <;> rfl) (by kernel_rfl) (by kernel_rfl) (by kernel_rfl) (by exact fun _ _ _ h => h) (Or.inl ⟨by rfl, ?_⟩) hHeld ?_
    rotate_left
    · intro w hSw; (try dsimp only at hSw); go_simp; (try with_reducible rfl)
    (try simp only [Act.put, List.setIfInBounds_toArray, List.set_cons_zero, List.set_cons_succ])
    refine wpAnyH_take (i := 18) (v := ?_) (by simp only [List.getElem?_toArray, List.getElem?_cons_succ, List.getElem?_cons_zero] <;> rfl) (by kernel_rfl) (by kernel_rfl) (by kernel_rfl) (by exact fun _ _ _ h => h) (Or.inl ⟨by rfl, ?_⟩) hHeld ?_
    rotate_left
    · intro w hSw; (try dsimp only at hSw); go_simp; (try with_reducible rfl)
    (try simp only [Act.put, List.setIfInBounds_toArray, List.set_cons_zero, List.set_cons_succ])
    refine wpAnyH_ready (rs := [13, 20]) (by kernel_rfl) (by simp) ?_
    refine AllReadyH.cons (by simp only [List.getElem?_toArray, List.getElem?_cons_succ, List.getElem?_cons_zero] <;> rfl) (fun K hK => ?_) (AllReadyH.cons (by simp only [List.getElem?_toArray, List.getElem?_cons_succ, List.getElem?_cons_zero] <;> rfl) (fun K hK => ?_) AllReadyH.nil)
    · go_simp
      go_at_call 23
      refine (H2.out _ HB.out.drew).mono ?_
      rintro e w2 ⟨rfl, m2, rfl⟩
      go_wp2_with fail
      refine hK.out _ _ ?_ (fun hHeld => ?_)
      · exact HS.out _ (below_drewN HB.out _)
      clear hK K
      (try simp only [Act.put, List.setIfInBounds_toArray, List.set_cons_zero, List.set_cons_succ])
      refine wpAnyH_take (i := 19) (v := ?_) (by simp only [List.getElem?_toArray, List.getElem?_cons_succ, List.getElem?_cons_zero] <;> rfl) (by kernel_rfl) (by kernel_rfl) (by kernel_rfl) (by exact fun _ _ _ h => h) (Or.inl ⟨by rfl, ?_⟩) hHeld ?_
      rotate_left
      · intro w hSw; (try dsimp only at hSw); go_simp; (try with_reducible rfl)
      (try simp only [Act.put, List.setIfInBounds_toArray, List.set_cons_zero, List.set_cons_succ])
      refine wpAnyH_ready (rs := [20]) (by kernel_rfl) (by simp) ?_
      refine AllReadyH.cons (by simp only [List.getElem?_toArray, List.getElem?_cons_succ, List.getElem?_cons_zero] <;> rfl) (fun K hK => ?_) AllReadyH.nil
      go_simp
      refine hK.out _ _ ?_ (fun hHeld => ?_)
      · exact HS.out _ ((below_drewN HB.out _).alloc hle _)
      clear hK K
      (try simp only [Act.put, List.setIfInBounds_toArray, List.set_cons_zero, List.set_cons_succ])
      refine wpAnyH_ready (rs := [21]) (by kernel_rfl) (by simp) ?_
      refine AllReadyH.cons (by simp only [List.getElem?_toArray, List.getElem?_cons_succ, List.getElem?_cons_zero] <;> rfl) (fun K hK => ?_) AllReadyH.nil
      rw [if_pos (by rfl)]
      refine wp_store_head (.tmp 5) (.tmp 31) rfl (w.heap.size + 1) (heads0 bs) Hd.none rfl rfl (HQ.out.2 _) ?_
      refine hK.out _ _ ?_ (fun hHeld => ?_)
      · exact HS.out _ (below_setRow ((below_drewN HB.out _).alloc hle _) (Nat.le_succ _) _)
      clear hK K
      refine wpAnyH_done (by kernel_rfl) ?_ _
      go_wp2_with fail
      go_meet
      exact Lib.hid ⟨rfl, (HQ.out.2 _).stored _, read_old HQ.out.1 _ _ _, below_setRow ((below_drewN HB.out _).alloc hle _) (Nat.le_succ _) _⟩
    · go_simp
      refine hK.out _ _ ?_ (fun hHeld => ?_)
      · exact HS.out _ (HB.out.alloc hle _).drew
      clear hK K
      (try simp only [Act.put, List.setIfInBounds_toArray, List.set_cons_zero, List.set_cons_succ])
      refine wpAnyH_ready (rs := [13]) (by kernel_rfl) (by simp) ?_
      refine AllReadyH.cons (by simp only [List.getElem?_toArray, List.getElem?_cons_succ, List.getElem?_cons_zero] <;> rfl) (fun K hK => ?_) AllReadyH.nil
      go_simp
      go_at_call 23
      refine (H2.out _ (HB.out.alloc hle _).drew).mono ?_
      rintro e w2 ⟨rfl, m2, rfl⟩
      go_wp2_with fail
      refine hK.out _ _ ?_ (fun hHeld => ?_)
      · exact HS.out _ (below_drewN (HB.out.alloc hle _) _)
      clear hK K
      (try simp only [Act.put, List.setIfInBounds_toArray, List.set_cons_zero, List.set_cons_succ])
      refine wpAnyH_take (i := 19) (v := ?_) (by simp only [List.getElem?_toArray, List.getElem?_cons_succ, List.getElem?_cons_zero] <;> rfl) (by kernel_rfl) (by kernel_rfl) (by kernel_rfl) (by exact fun _ _ _ h => h) (Or.inl ⟨by rfl, ?_⟩) hHeld ?_
      rotate_left
      · intro w hSw; (try dsimp only at hSw); go_simp; (try with_reducible rfl)
      (try simp only [Act.put, List.setIfInBounds_toArray, List.set_cons_zero, List.set_cons_succ])
      refine wpAnyH_ready (rs := [21]) (by kernel_rfl) (by simp) ?_
      refine AllReadyH.cons (by simp only [List.getElem?_toArray, List.getElem?_cons_succ, List.getElem?_cons_zero] <;> rfl) (fun K hK => ?_) AllReadyH.nil
      rw [if_pos (by rfl)]
      refine wp_store_head (.tmp 5) (.tmp 31) rfl (w.heap.size + 1) (heads0 bs) Hd.none rfl rfl (HQ.out.2 _) ?_
      refine hK.out _ _ ?_ (fun hHeld => ?_)
      · exact HS.out _ (below_setRow ((below_drewN HB.out _).alloc hle _) (Nat.le_succ _) _)
      clear hK K
      refine wpAnyH_done (by kernel_rfl) ?_ _
      go_wp2_with fail
      go_meet
      exact Lib.hid ⟨rfl, (HQ.out.2 _).stored _, read_old HQ.out.1 _ _ _, below_setRow ((below_drewN HB.out _).alloc hle _) (Nat.le_succ _) _⟩
  case rest =>
    obtain ⟨rfl, hN, hO, hb⟩ := hcut.out
    have hz : 0 ≤ hsize bs := by omega
    obtain ⟨z, hz'⟩ := Int.eq_ofNat_of_zero_le hz
    have hq9 := hN.cell 9
    have HG := Lib.hid (And.intro hN (And.intro hO hb))
    have H3 := Lib.hid (portsPresent_any (HL.out _ hb) cap (by omega))
    have Hz := Lib.hid hz'
    clear hcut H2 HS HB HQ hN hO hb hle hArr hw9 hwm hz hz' hq9
    cases hP : portsIn bs with
    | false =>
      rw [hP] at H3
      have HE : Hid (heads bs = heads0 bs) := Lib.hid (by simp [heads, heads0, hP])
      go_wp2_with fail
      refine H3.out.mono ?_
      rintro e w2 ⟨rfl, m3, rfl⟩
      have HA := Lib.hid (HG.out.1.drewN m3)
      have HO := Lib.hid (HG.out.2.1.drewN m3)
      have HR := Lib.hid (And.intro (HO.out.stored (heads0 bs)) (below_setRow (below_drewN HG.out.2.2 m3) (Nat.le_refl _) (heads0 bs).cells.toArray))
      clear HG H3 hP
      generalize wc.drewN m3 = W at *
      go_wp2_with (first
        | refine wpList_load_head rfl (.tmp 5) rfl (w.heap.size + 1) (heads0 bs) rfl HA.out ?_
        | refine wpList_store_head rfl (.tmp 2) (.tmp 45) rfl w.heap.size (heads0 bs) Hd.none rfl rfl HO.out ?_)
      exact bodyPost_ret_by (results_head rfl _ _ rfl HR.out.1) rfl ⟨by rw [HE.out]; rfl, HR.out.2⟩
    | true =>
      rw [hP] at H3
      have HE : Hid (heads bs = { heads0 bs with sp := wordAt bs z, dp := wordAt bs (z + 2) }) := Lib.hid (by simp [heads, heads0, hP, Hz.out])
      have hroom := g8 hP
      have H4 : Hid (∀ W, Below w.heap.size w W → _) := Lib.hid (fun W hW => headerBytes_any (HL.out W hW) cap (by omega))
      rw [Hz.out] at H4 hroom g4 g6
      have H5 := Lib.hid (fun W (hW : Below w.heap.size w W) => word_any (HL.out W hW) cap (i := z) (by omega))
      have H6 : ∀ W, Below w.heap.size w W → _ := fun W hW => word_any (HL.out W hW) cap (i := z + 2) (by omega)
      rw [show ((z + 2 : Nat) : Int) = (z : Int) + 2 by omega] at H6
      have H6' := Lib.hid H6
      have hzz : z ≤ 60 := by
        have := Hz.out
        unfold hsize at this
        omega
      clear H6 g8 hP g7 hr HL g2 g3 g5
      generalize wordAt bs (z + 2) = D at *
      generalize wordAt bs z = X at *
      go_wp2_with fail
      refine H3.out.mono ?_
      rintro e w2 ⟨rfl, m3, hw2⟩
      have HA : Hid (HeadAt w2 (w.heap.size + 1) (heads0 bs) ∧ HeadAt w2 w.heap.size Hd.none ∧ Below w.heap.size w w2) := Lib.hid (by rw [hw2]; exact ⟨HG.out.1, HG.out.2.1, below_drewN HG.out.2.2 _⟩)
      clear hw2 HG H3
      go_wp2_with fail
      refine (H4.out _ HA.out.2.2).mono ?_
      rintro e w3 ⟨rfl, rfl⟩
      go_wp2_with fail
      refine (H5.out _ HA.out.2.2).mono ?_
      rintro e w3 ⟨rfl, m4, hw3⟩
      have HA3 : Hid (HeadAt w3 (w.heap.size + 1) (heads0 bs) ∧ HeadAt w3 w.heap.size Hd.none ∧ Below w.heap.size w w3) := Lib.hid (by rw [hw3]; exact ⟨HA.out.1, HA.out.2.1, below_drewN HA.out.2.2 _⟩)
      have c9 : w3.cell? ⟨w.heap.size + 1, 9, none⟩ = some (.int .i64 0) := HA3.out.1.cell 9
      have z9 := HA3.out.1.froz 9
      clear hw3 HA H5
      go_wp2_with fail
      refine (H4.out _ (HA3.out.2.2.setCell (p := ⟨w.heap.size + 1, 9, none⟩) (Nat.le_succ _) _)).mono ?_
      rintro e w4 ⟨rfl, hw4⟩
      have HA4 : Hid (HeadAt w4 (w.heap.size + 1) { heads0 bs with sp := X } ∧ HeadAt w4 w.heap.size Hd.none ∧ Below w.heap.size w w4) := Lib.hid (by rw [← hw4]; exact ⟨HA3.out.1.sp X, HA3.out.2.1.other _ _ (by simp), HA3.out.2.2.setCell (p := ⟨w.heap.size + 1, 9, none⟩) (Nat.le_succ _) _⟩)
      clear hw4 HA3 c9 z9 H4
      have k7 : IntKind.i64.wrap ((z : Int) + 2) = (z : Int) + 2 := wraps_i64 _ (by omega) (by omega)
      go_wp2_with fail
      refine (H6'.out _ HA4.out.2.2).mono ?_
      rintro e w5 ⟨rfl, m5, hw5⟩
      have HA5 : Hid (HeadAt w5 (w.heap.size + 1) { heads0 bs with sp := X } ∧ HeadAt w5 w.heap.size Hd.none ∧ Below w.heap.size w w5) := Lib.hid (by rw [hw5]; exact ⟨HA4.out.1, HA4.out.2.1, below_drewN HA4.out.2.2 _⟩)
      have c10 : w5.cell? ⟨w.heap.size + 1, 10, none⟩ = some (.int .i64 0) := HA5.out.1.cell 10
      have z10 := HA5.out.1.froz 10
      have HQ6 := Lib.hid (HA5.out.1.dp D)
      have HO6 := Lib.hid (HA5.out.2.1.other ⟨w.heap.size + 1, 10, none⟩ (.int .i64 D) (by simp))
      have HR6 := Lib.hid (And.intro (HO6.out.stored { heads0 bs with sp := X, dp := D }) (below_setRow (HA5.out.2.2.setCell (p := ⟨w.heap.size + 1, 10, none⟩) (Nat.le_succ _) (.int .i64 D)) (Nat.le_refl _) { heads0 bs with sp := X, dp := D }.cells.toArray))
      clear hw5 HA4 HA5 H6'
      go_wp2_with (first
        | refine wpList_load_head rfl (.tmp 5) rfl (w.heap.size + 1) { heads0 bs with sp := X, dp := D } rfl HQ6.out ?_
        | refine wpList_store_head rfl (.tmp 2) (.tmp 45) rfl w.heap.size { heads0 bs with sp := X, dp := D } Hd.none rfl rfl HO6.out ?_)
      exact bodyPost_ret_by (results_head rfl _ _ rfl HR6.out.1) rfl ⟨by rw [HE.out]; rfl, HR6.out.2⟩

/-- head.Read. -/
theorem read_any {w : World} {A : Option Addr} {bs : List Int} (h : Lies w A bs) {cap : Nat} (hc : bs.length ≤ cap) :
    Calls Try.prog 10 #[.slice A bs.length cap] w fun e w' => e = .returned (.tuple #[.agg (readHd bs).cells.toArray, .int .i64 (unread bs)]) ∧ Below w.heap.size w w' := by
  unfold readHd
  by_cases hr : unread bs = 0
  · rw [if_pos hr]
    obtain ⟨g1, _⟩ := readable.1 hr
    obtain ⟨b, off, rfl, _⟩ := h.at_ (by omega)
    rw [hr]
    exact read_good h hc hr
  · rw [if_neg hr]
    exact read_bad h hc hr
end Go.Proofs.Ytmigfemkbdehbaa
