/- Package share: ascending. -/
import Derived.Test.YtlpchakoikmbnaaSh4
namespace Go.Proofs.Ytlpchakoikmbnaa
open Go.RowKit Go.Maps

/-- Two slices in boxes behind w, the places in the row behind them. -/
structure AInv (w wr : World) (A B : Option Addr) (n cx cy i : Nat) : Prop where
  below : Below w.heap.size w wr
  c0 : wr.heap[w.heap.size]? = some (.cells #[.slice A n cx] 22 (0, 0))
  c1 : wr.heap[w.heap.size + 1]? = some (.cells #[.slice B n cy] 22 (0, 0))
  row : ∃ F : Nat → Value, wr.rowIs (w.heap.size + 2) 3 n F ∧ ∀ j : Nat, (j < i → F j = .int .i64 (j : Int)) ∧ (i ≤ j → F j = .int .i64 0)
def laidAB (w : World) (A B : Option Addr) (n m cx cy : Nat) : World := (w.alloc (.cells #[.slice A n cx] 22)).alloc (.cells #[.slice B m cy] 22)
theorem laidAB_at (w : World) (A B : Option Addr) (n m cx cy : Nat) : (laidAB w A B n m cx cy).heap[w.heap.size]? = some (.cells #[.slice A n cx] 22 (0, 0)) ∧ (laidAB w A B n m cx cy).heap[w.heap.size + 1]? = some (.cells #[.slice B m cy] 22 (0, 0)) ∧ Below w.heap.size w (laidAB w A B n m cx cy) ∧ (laidAB w A B n m cx cy).heap.size = w.heap.size + 2 := by
  have b1 : Below w.heap.size w (w.alloc (.cells #[.slice A n cx] 22)) := (Below.refl _ _).alloc (Nat.le_refl _) _
  have hs : (w.alloc (.cells #[.slice A n cx] 22)).heap.size = w.heap.size + 1 := by simp
  have h2 := heap_alloc_new (w.alloc (.cells #[.slice A n cx] 22)) (.cells #[.slice B m cy] 22)
  rw [hs] at h2
  refine ⟨?_, h2, b1.alloc (by omega) _, by simp [laidAB]⟩
  exact (Below.heap_alloc (w.alloc (.cells #[.slice A n cx] 22)) (.cells #[.slice B m cy] 22) w.heap.size (by rw [hs]; omega)).trans (heap_alloc_new w _)
namespace AInv
variable {w wr : World} {A B : Option Addr} {n cx cy i : Nat}
theorem cells (h : AInv w wr A B n cx cy i) : wr.cell? ⟨w.heap.size, 0, none⟩ = some (.slice A n cx) ∧ wr.cell? ⟨w.heap.size + 1, 0, none⟩ = some (.slice B n cy) := ⟨cell_of_row _ _ 0 _ _ _ h.c0, cell_of_row _ _ 0 _ _ _ h.c1⟩
theorem seat (h : AInv w wr A B n cx cy i) (hi : i < n) : wr.cell? ⟨w.heap.size + 2, i, none⟩ = some (.int .i64 0) ∧ wr.frozen? ⟨w.heap.size + 2, i, none⟩ = false := by
  obtain ⟨F, hr, hF⟩ := h.row
  exact ⟨by rw [hr.cell hi, (hF i).2 (Nat.le_refl _)], hr.frozen _⟩
theorem put (h : AInv w wr A B n cx cy i) : AInv w (wr.setCell ⟨w.heap.size + 2, i, none⟩ (.int .i64 (i : Int))) A B n cx cy (i + 1) := by
  obtain ⟨F, hr, hF⟩ := h.row
  refine ⟨h.below.setCell (by show w.heap.size ≤ w.heap.size + 2; omega) _, ?_, ?_, ⟨_, hr.set i (.int .i64 (i : Int)), fun j => ⟨fun hj => ?_, fun hj => ?_⟩⟩⟩
  · exact (heap_setCell_other wr ⟨w.heap.size + 2, i, none⟩ w.heap.size _ (by show w.heap.size ≠ w.heap.size + 2; omega)).trans h.c0
  · exact (heap_setCell_other wr ⟨w.heap.size + 2, i, none⟩ (w.heap.size + 1) _ (by show w.heap.size + 1 ≠ w.heap.size + 2; omega)).trans h.c1
  · by_cases c : j = i
    · subst c; rw [if_pos rfl]
    · rw [if_neg c]; exact (hF j).1 (by omega)
  · rw [if_neg (by omega)]; exact (hF j).2 (by omega)
theorem ready (h : AInv w wr A B n cx cy n) {xs ys : List Int} (hx : IntsIn w A xs) (hy : IntsIn w B ys) (nx : xs.length = n) (ny : ys.length = n) : ToSort wr A B xs ys n cx cy (w.heap.size + 2) w.heap.size (w.heap.size + 1) := by
  obtain ⟨F, hr, hF⟩ := h.row
  have hs := hr.lt
  refine ⟨hx.below h.below, hy.below h.below, nx, ny, h.cells.1, h.cells.2, by omega, by omega, hr.congr fun j hj => (hF j).1 hj, fun k hk => ?_⟩
  have old : ∀ {C : Option Addr} {zs : List Int}, IntsIn w C zs → 0 < zs.length → Ab C k → k < w.heap.size := fun hz h0 hk => by
    obtain ⟨b, off, e, hl, _⟩ := hz.at_ h0
    obtain ⟨a, e2, rfl⟩ := hk
    rw [e] at e2
    injection e2 with e2
    subst e2
    exact hl
  rcases hk with ⟨h0, hk | hk⟩ | rfl | rfl
  · have := old hx (by omega) hk
    omega
  · have := old hy (by omega) hk
    omega
  · omega
  · omega
end AInv
/-- What ascending answers. -/
def Ascended (w : World) (xs ys : List Int) (e : Ending) (w' : World) : Prop :=
  ∃ (g : Nat) (L : List Nat), e = .returned (.slice (some ⟨g, 0, none⟩) xs.length xs.length) ∧ L.Perm (List.range xs.length) ∧ Asc xs ys L ∧ IntsIn w' (some ⟨g, 0, none⟩) (L.map fun k : Nat => (k : Int)) ∧ w.heap.size ≤ g ∧ Below w.heap.size w w'

set_option maxRecDepth 100000 in
set_option maxHeartbeats 4000000 in
theorem ascending_any {w : World} {A B : Option Addr} {xs ys : List Int} {all : Int} (hx : IntsIn w A xs) (hy : IntsIn w B ys) (hR : Right all xs ys) (cx cy : Nat) :
    Calls Try.prog 20 #[.slice A xs.length cx, .slice B ys.length cy] w (Ascended w xs ys) := by
  obtain ⟨n, hn⟩ : ∃ n, xs.length = n := ⟨_, rfl⟩
  have hm : ys.length = n := by rw [hR.len, hn]
  have h16 : n ≤ 16 := by rw [← hn]; exact hR.few
  have HX := Lib.hid (laidAB_at w A B n n cx cy)
  have HS : Hid (∀ W, AInv w W A B n cx cy n → Calls Try.prog 25 #[.slice (some ⟨w.heap.size + 2, 0, none⟩) n n, .func (.func 26) #[] #[.pointer (some ⟨w.heap.size, 0, none⟩), .pointer (some ⟨w.heap.size + 1, 0, none⟩)]] W (fun e W' => e = .returned (.tuple #[]) ∧ Ascended w xs ys (.returned (.slice (some ⟨w.heap.size + 2, 0, none⟩) n n)) W')) := Lib.hid (fun W hW => by
    refine (sort_any (hW.ready hx hy hn hm) hR.want0 hR.weight0 (fun k hk => (hR.weight (by omega)).1) h16 n).mono ?_
    rintro e W' ⟨he, L, h1, h2, h3, h4⟩
    refine ⟨he, w.heap.size + 2, L, by rw [hn], by rw [hn]; exact h1, h2, h3, by omega, ?_⟩
    have hb := hW.below
    exact ⟨h4.os.trans hb.os, h4.tape.trans hb.tape, h4.output.trans hb.output, Nat.le_trans hb.size h4.size, fun k hk => (h4.block k (Nat.lt_of_lt_of_le hk hb.size) (by omega)).trans (hb.block k hk)⟩)
  rw [hn, hm]
  generalize Ascended w xs ys = D at *
  have hmk := run_make_row' (P := Try.prog) 22 3 (.int .i64 0) 8 Try.underlying22 (by kernel_rfl) rfl .i64 .i64 n (by omega) (by omega)
  clear hx hy hR hn hm
  go_enter Try.func20, Try.ntmps20
  go_upto_region 1 with fail
  change Code.wp _ _ _ _ (laidAB w A B n n cx cy)
  generalize laidAB w A B n n cx cy = m at *
  have c0 := cell_of_row _ _ 0 _ _ _ HX.out.1
  have c1 := cell_of_row _ _ 0 _ _ _ HX.out.2.1
  go_upto_region 2 with fail
  have HI : Hid (AInv w (m.alloc (.cells (madeCells #[.int .i64 0] n) 3)) A B n cx cy 0) := Lib.hid (by
    have hs := HX.out.2.2.2
    have bo : Below m.heap.size m (m.alloc (.cells (madeCells #[.int .i64 0] n) 3)) := (Below.refl _ _).alloc (Nat.le_refl _) _
    refine ⟨HX.out.2.2.1.trans (bo.mono (by omega)), (bo.block _ (by omega)).trans HX.out.1, (bo.block _ (by omega)).trans HX.out.2.1, ⟨fun _ => .int .i64 0, ?_, fun j => ⟨fun h => absurd h (by omega), fun _ => rfl⟩⟩⟩
    have := World.rowIs_made m (.int .i64 0) n 3
    rwa [hs] at this)
  have hsz := HX.out.2.2.2
  rw [hsz]
  clear c0 c1 hmk HX hsz
  generalize m.alloc (.cells (madeCells #[.int .i64 0] n) 3) = w3 at *
  go_wp2_with fail
  go_loopg [12] n (fun k c wr => ∃ i : Nat, c = .int .i64 (i : Int) ∧ i + k = n ∧ Hid (AInv w wr A B n cx cy i))
  case atStart => exact ⟨0, rfl, by omega, HI⟩
  case round =>
    clear HI
    obtain ⟨i, rfl, hik, HI⟩ := hrel
    cases gk with
    | zero =>
      obtain rfl : i = n := by omega
      have HS2 := Lib.hid (HS.out _ HI.out)
      clear HS HI
      go_wp2_with fail
      refine HS2.out.mono ?_
      rintro e W' ⟨rfl, hd⟩
      have HD := Lib.hid hd
      clear hd HS2
      go_wp2_with fail
      exact HD.out
    | succ k =>
      have hi : i < n := by omega
      have i1 : (i : Int) < (n : Int) := by omega
      obtain ⟨c0, c1⟩ := HI.out.seat hi
      have HJ := Lib.hid HI.out.put
      clear HI HS
      go_wp2_with fail
      go_roundg k
      case measure => omega
      case rel => exact ⟨i + 1, by go_num, by omega, HJ⟩
end Go.Proofs.Ytlpchakoikmbnaa
