/- Curves and services in memory; wrong, wrongCurve, wrongService, Wrong. -/
import Derived.Test.YtdlmiiekcpbdcaaCvMath
import Derived.Test.YtdlmiiekcpbdcaaIn1
namespace Go.Proofs.Ytdlmiiekcpbdcaa
open Go.RowKit Go.Maps

/-- A curve lies in a block of its own. -/
def CurAt (w : World) (g : Nat) (b r : Int) : Prop := w.heap[g]? = some (.cells #[.int .i64 b, .int .i64 r] 23 (0, 0))
/-- A service lies in a block of its own. -/
def SerAt (w : World) (g : Nat) (l s : Int) : Prop := w.heap[g]? = some (.cells #[.int .i64 l, .int .i64 s] 25 (0, 0))
theorem CurAt.cells {w : World} {g : Nat} {b r : Int} (h : CurAt w g b r) : w.cell? ⟨g, 0, none⟩ = some (.int .i64 b) ∧ w.cell? ⟨g, 1, none⟩ = some (.int .i64 r) := ⟨cell_of_row _ _ 0 _ _ _ h, cell_of_row _ _ 1 _ _ _ h⟩
theorem SerAt.cells {w : World} {g : Nat} {b r : Int} (h : SerAt w g b r) : w.cell? ⟨g, 0, none⟩ = some (.int .i64 b) ∧ w.cell? ⟨g, 1, none⟩ = some (.int .i64 r) := ⟨cell_of_row _ _ 0 _ _ _ h, cell_of_row _ _ 1 _ _ _ h⟩
theorem CurAt.lt {w : World} {g : Nat} {b r : Int} (h : CurAt w g b r) : g < w.heap.size := (Array.getElem?_eq_some_iff.1 h).1
theorem SerAt.lt {w : World} {g : Nat} {b r : Int} (h : SerAt w g b r) : g < w.heap.size := (Array.getElem?_eq_some_iff.1 h).1
theorem CurAt.below {w w' : World} {g : Nat} {b r : Int} (h : CurAt w g b r) (hb : Below w.heap.size w w') : CurAt w' g b r := (hb.block g h.lt).trans h
theorem SerAt.below {w w' : World} {g : Nat} {b r : Int} (h : SerAt w g b r) (hb : Below w.heap.size w w') : SerAt w' g b r := (hb.block g h.lt).trans h
def laidC (w : World) (b r : Int) : World := w.alloc (.cells #[.int .i64 b, .int .i64 r] 23)
def laidS (w : World) (l s : Int) : World := w.alloc (.cells #[.int .i64 l, .int .i64 s] 25)
theorem laidC_at (w : World) (b r : Int) : CurAt (laidC w b r) w.heap.size b r ∧ Below w.heap.size w (laidC w b r) ∧ (laidC w b r).heap.size = w.heap.size + 1 := ⟨heap_alloc_new w _, (Below.refl _ _).alloc (Nat.le_refl _) _, by simp [laidC]⟩
theorem laidS_at (w : World) (b r : Int) : SerAt (laidS w b r) w.heap.size b r ∧ Below w.heap.size w (laidS w b r) ∧ (laidS w b r).heap.size = w.heap.size + 1 := ⟨heap_alloc_new w _, (Below.refl _ _).alloc (Nat.le_refl _) _, by simp [laidS]⟩
/-- A curve and a service in the first two blocks behind w0. -/
structure Two (w0 w : World) (b r l s : Int) : Prop where
  below : Below w0.heap.size w0 w
  cur : CurAt w w0.heap.size b r
  ser : SerAt w (w0.heap.size + 1) l s
theorem Two.later {w0 w w' : World} {b r l s : Int} (h : Two w0 w b r l s) (hb : Below w.heap.size w w') : Two w0 w' b r l s := ⟨h.below.trans (hb.mono h.below.size), h.cur.below hb, h.ser.below hb⟩
def laid2 (w : World) (b r l s : Int) : World := laidS (laidC w b r) l s
theorem laid2_at (w : World) (b r l s : Int) : Two w (laid2 w b r l s) b r l s := by
  have h1 := laidC_at w b r
  have h2 := laidS_at (laidC w b r) l s
  exact ⟨h1.2.1.trans (h2.2.1.mono h1.2.1.size), h1.1.below h2.2.1, by have := h2.1; rwa [h1.2.2] at this⟩
theorem Two.cells {w0 w : World} {b r l s : Int} (h : Two w0 w b r l s) : (w.cell? ⟨w0.heap.size, 0, none⟩ = some (.int .i64 b) ∧ w.cell? ⟨w0.heap.size, 1, none⟩ = some (.int .i64 r)) ∧ w.cell? ⟨w0.heap.size + 1, 0, none⟩ = some (.int .i64 l) ∧ w.cell? ⟨w0.heap.size + 1, 1, none⟩ = some (.int .i64 s) := ⟨h.cur.cells, h.ser.cells⟩

set_option maxHeartbeats 1000000 in
theorem wrong_eq (n : Int) (w : World) : Calls Try.prog 25 #[.int .i64 n] w fun e w' => e = .returned (.bool (out20 n)) ∧ w = w' := by
  unfold out20
  by_cases c : n < 0
  · go_enter Try.func25, Try.ntmps25
    go_wp2
    go_ret
    exact ⟨ret_bool (by simp [c]), rfl⟩
  · go_enter Try.func25, Try.ntmps25
    go_wp2
    go_ret
    exact ⟨ret_bool (by simp; omega), rfl⟩

set_option maxHeartbeats 1000000 in
theorem wrongCurve_any (b r : Int) (w : World) : Calls Try.prog 23 #[.agg #[.int .i64 b, .int .i64 r]] w fun e w' => e = .returned (.bool (out20 b || out20 r)) ∧ Below w.heap.size w w' := by
  have HX := Lib.hid (laidC_at w b r)
  have H0 := Lib.hid (fun w => wrong_eq b w)
  have H1 := Lib.hid (fun w => wrong_eq r w)
  generalize out20 b = J0 at *
  generalize out20 r = J1 at *
  cases J0 with
  | true =>
    go_enter Try.func23, Try.ntmps23
    go_upto_region 1 with fail
    change Code.wp _ _ _ _ (laidC w b r)
    generalize laidC w b r = m at *
    obtain ⟨c0, c1⟩ := HX.out.1.cells
    go_wp2_with fail
    refine (H0.out _).mono ?_
    rintro e w1 ⟨rfl, rfl⟩
    go_wp2_with fail
    go_ret
    exact ⟨rfl, HX.out.2.1⟩
  | false =>
    go_enter Try.func23, Try.ntmps23
    go_upto_region 1 with fail
    change Code.wp _ _ _ _ (laidC w b r)
    generalize laidC w b r = m at *
    obtain ⟨c0, c1⟩ := HX.out.1.cells
    go_wp2_with fail
    refine (H0.out _).mono ?_
    rintro e w1 ⟨rfl, rfl⟩
    go_wp2_with fail
    refine (H1.out _).mono ?_
    rintro e w1 ⟨rfl, rfl⟩
    go_wp2_with fail
    go_ret
    exact ⟨rfl, HX.out.2.1⟩
set_option maxHeartbeats 1000000 in
theorem wrongService_any (b r : Int) (w : World) : Calls Try.prog 22 #[.agg #[.int .i64 b, .int .i64 r]] w fun e w' => e = .returned (.bool (out20 b || out20 r)) ∧ Below w.heap.size w w' := by
  have HX := Lib.hid (laidS_at w b r)
  have H0 := Lib.hid (fun w => wrong_eq b w)
  have H1 := Lib.hid (fun w => wrong_eq r w)
  generalize out20 b = J0 at *
  generalize out20 r = J1 at *
  cases J0 with
  | true =>
    go_enter Try.func22, Try.ntmps22
    go_upto_region 1 with fail
    change Code.wp _ _ _ _ (laidS w b r)
    generalize laidS w b r = m at *
    obtain ⟨c0, c1⟩ := HX.out.1.cells
    go_wp2_with fail
    refine (H0.out _).mono ?_
    rintro e w1 ⟨rfl, rfl⟩
    go_wp2_with fail
    go_ret
    exact ⟨rfl, HX.out.2.1⟩
  | false =>
    go_enter Try.func22, Try.ntmps22
    go_upto_region 1 with fail
    change Code.wp _ _ _ _ (laidS w b r)
    generalize laidS w b r = m at *
    obtain ⟨c0, c1⟩ := HX.out.1.cells
    go_wp2_with fail
    refine (H0.out _).mono ?_
    rintro e w1 ⟨rfl, rfl⟩
    go_wp2_with fail
    refine (H1.out _).mono ?_
    rintro e w1 ⟨rfl, rfl⟩
    go_wp2_with fail
    go_ret
    exact ⟨rfl, HX.out.2.1⟩

set_option maxHeartbeats 1000000 in
theorem wrong_any (b r l s : Int) (w : World) : Calls Try.prog 14 #[.agg #[.int .i64 b, .int .i64 r], .agg #[.int .i64 l, .int .i64 s]] w fun e w' => e = .returned (.int .i64 (if wrong4 b r l s = true then 2 else 0)) ∧ Below w.heap.size w w' := by
  have HX := Lib.hid (laid2_at w b r l s)
  have H0 := Lib.hid (fun w => wrongCurve_any b r w)
  have H1 := Lib.hid (fun w => wrongService_any l s w)
  unfold wrong4
  generalize (out20 b || out20 r) = J0 at *
  generalize (out20 l || out20 s) = J1 at *
  cases J0 with
  | true =>
    go_enter Try.func14, Try.ntmps14
    go_upto_region 1 with fail
    change Code.wp _ _ _ _ (laid2 w b r l s)
    generalize laid2 w b r l s = m at *
    obtain ⟨⟨c0, c1⟩, c2, c3⟩ := HX.out.cells
    go_wp2_with fail
    refine (H0.out _).mono ?_
    rintro e w1 ⟨rfl, hb⟩
    have HY := Lib.hid (HX.out.later hb)
    clear HX hb c0 c1 c2 c3
    go_wp2_with fail
    go_ret
    exact ⟨rfl, HY.out.below⟩
  | false =>
    go_enter Try.func14, Try.ntmps14
    go_upto_region 1 with fail
    change Code.wp _ _ _ _ (laid2 w b r l s)
    generalize laid2 w b r l s = m at *
    obtain ⟨⟨c0, c1⟩, c2, c3⟩ := HX.out.cells
    go_wp2_with fail
    refine (H0.out _).mono ?_
    rintro e w1 ⟨rfl, hb⟩
    have HY := Lib.hid (HX.out.later hb)
    clear HX hb c0 c1 c2 c3
    obtain ⟨⟨c0, c1⟩, c2, c3⟩ := HY.out.cells
    go_wp2_with fail
    refine (H1.out _).mono ?_
    rintro e w2 ⟨rfl, hb⟩
    have HZ := Lib.hid (HY.out.later hb)
    clear HY hb c0 c1 c2 c3
    cases J1 with
    | true =>
      go_wp2_with fail
      go_ret
      exact ⟨rfl, HZ.out.below⟩
    | false =>
      go_wp2_with fail
      go_ret
      exact ⟨rfl, HZ.out.below⟩
end Go.Proofs.Ytdlmiiekcpbdcaa
