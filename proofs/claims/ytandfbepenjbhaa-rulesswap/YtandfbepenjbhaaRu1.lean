/- Contracts of package rules: between, takesProto, source, destination. -/
import Derived.Test.YtandfbepenjbhaaRuMath
import Derived.Test.YtandfbepenjbhaaTr3a
namespace Go.Proofs.Ytandfbepenjbhaa
open Go.RowKit Go.Maps

def Ru.cells (r : Ru) : List Value := [.int .u8 r.src.a0, .int .u8 r.src.a1, .int .u8 r.src.a2, .int .u8 r.src.a3, .int .u8 r.dst.a0, .int .u8 r.dst.a1, .int .u8 r.dst.a2, .int .u8 r.dst.a3, .int .i64 r.sb, .int .i64 r.db, .int .i64 r.pr, .int .i64 r.lo, .int .i64 r.hi, .int .i64 r.cl]
def Hd.cells (h : Hd) : List Value := [.int .u8 h.src.a0, .int .u8 h.src.a1, .int .u8 h.src.a2, .int .u8 h.src.a3, .int .u8 h.dst.a0, .int .u8 h.dst.a1, .int .u8 h.dst.a2, .int .u8 h.dst.a3, .int .i64 h.pr, .int .i64 h.sp, .int .i64 h.dp, .int .i64 h.ln, .int .i64 h.ma]

set_option maxHeartbeats 1000000 in
theorem between_eq (n l h : Int) (w : World) :
    Calls Try.prog 30 #[.int .i64 n, .int .i64 l, .int .i64 h] w fun e w' => e = .returned (.bool (btw n l h)) ∧ w = w' := by
  unfold btw
  by_cases c : l ≤ n
  · go_enter Try.func30, Try.ntmps30
    go_wp2
    go_ret
    exact ⟨ret_bool (by simp [c]), rfl⟩
  · go_enter Try.func30, Try.ntmps30
    go_wp2
    go_ret
    exact ⟨ret_bool (by simp; omega), rfl⟩

theorem between_any (n l h : Int) (w : World) :
    Calls Try.prog 30 #[.int .i64 n, .int .i64 l, .int .i64 h] w fun e w' => e = .returned (.bool (btw n l h)) ∧ Below w.heap.size w w' := by
  refine (between_eq n l h w).mono ?_
  rintro e w1 ⟨rfl, rfl⟩
  exact ⟨rfl, Below.refl _ _⟩
set_option maxHeartbeats 1000000 in
theorem takes_any (r : Ru) (p : Int) (w : World) :
    Calls Try.prog 29 #[.agg r.cells.toArray, .int .i64 p] w fun e w' => e = .returned (.bool (takes r p)) ∧ Below w.heap.size w w' := by
  have HB : Hid (Below w.heap.size w (w.alloc (.cells r.cells.toArray 32))) := Lib.hid ((Below.refl _ _).alloc (Nat.le_refl _) _)
  unfold takes
  unfold Ru.cells at *
  cases c : (r.pr == 0) with
  | true =>
    go_enter Try.func29, Try.ntmps29
    go_wp2
    go_ret
    exact ⟨ret_bool (by simp), HB.out⟩
  | false =>
    go_enter Try.func29, Try.ntmps29
    go_wp2
    go_ret
    exact ⟨ret_bool (by simp), HB.out⟩

theorem info_prefix : (Try.prog.info? 51).map (·.size) = some 6 := by kernel_rfl
set_option maxHeartbeats 1000000 in
theorem source_any (r : Ru) (w : World) :
    Calls Try.prog 27 #[.agg r.cells.toArray] w fun e w' => e = .returned (.agg r.spf.cells.toArray) ∧ Below w.heap.size w w' := by
  have hb : Below w.heap.size w (w.alloc (.cells r.cells.toArray 32)) := (Below.refl _ _).alloc (Nat.le_refl _) _
  have HB := Lib.hid (hb.alloc hb.size (.cells r.spf.cells.toArray 51))
  have hn := heap_alloc_new (w.alloc (.cells r.cells.toArray 32)) (.cells r.spf.cells.toArray 51)
  rw [show (w.alloc (.cells r.cells.toArray 32)).heap.size = w.heap.size + 1 by simp] at hn
  have HN : Hid (((w.alloc (.cells r.cells.toArray 32)).alloc (.cells r.spf.cells.toArray 51)).heap[w.heap.size + 1]? = some (.cells r.spf.cells.toArray 51 (0, 0))) := Lib.hid hn
  clear hb hn
  unfold Ru.cells Pf.cells at *
  go_enter Try.func27, Try.ntmps27
  go_wp2
  exact bodyPost_ret_by (results_cell_row rfl _ _ (w.heap.size + 1) 51 _ (0, 0) _ rfl HN.out Try.underlying51 rfl info_prefix) rfl ⟨rfl, HB.out⟩
set_option maxHeartbeats 1000000 in
theorem destination_any (r : Ru) (w : World) :
    Calls Try.prog 28 #[.agg r.cells.toArray] w fun e w' => e = .returned (.agg r.dpf.cells.toArray) ∧ Below w.heap.size w w' := by
  have hb : Below w.heap.size w (w.alloc (.cells r.cells.toArray 32)) := (Below.refl _ _).alloc (Nat.le_refl _) _
  have HB := Lib.hid (hb.alloc hb.size (.cells r.dpf.cells.toArray 51))
  have hn := heap_alloc_new (w.alloc (.cells r.cells.toArray 32)) (.cells r.dpf.cells.toArray 51)
  rw [show (w.alloc (.cells r.cells.toArray 32)).heap.size = w.heap.size + 1 by simp] at hn
  have HN : Hid (((w.alloc (.cells r.cells.toArray 32)).alloc (.cells r.dpf.cells.toArray 51)).heap[w.heap.size + 1]? = some (.cells r.dpf.cells.toArray 51 (0, 0))) := Lib.hid hn
  clear hb hn
  unfold Ru.cells Pf.cells at *
  go_enter Try.func28, Try.ntmps28
  go_wp2
  exact bodyPost_ret_by (results_cell_row rfl _ _ (w.heap.size + 1) 51 _ (0, 0) _ rfl HN.out Try.underlying51 rfl info_prefix) rfl ⟨rfl, HB.out⟩
end Go.Proofs.Ytandfbepenjbhaa
