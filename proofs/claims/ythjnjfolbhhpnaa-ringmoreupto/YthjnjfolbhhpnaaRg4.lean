/- The reference: HRight. -/
import Derived.Test.YthjnjfolbhhpnaaRg3
namespace Go.Proofs.Ythjnjfolbhhpnaa
open Go.RowKit Go.Maps

theorem right_hb (q : Qu) : q.right = (decide (0 ≤ q.most) && (decide (q.most ≤ 400) && (decide (0 ≤ q.mb) && (decide (q.mb ≤ 1073741824) && (decide (0 ≤ q.dr) && (decide (q.dr ≤ 1099511627776) && (decide ((q.has.length : Int) ≤ q.most) && (decide (0 ≤ hb q.has) && decide (hb q.has ≤ q.mb))))))))) := by
  unfold Qu.right btw hb
  cases h : q.has.any bad with
  | true => simp
  | false =>
    have := tot_bound2 h
    have h2 : decide (0 ≤ tot q.has) = true := decide_eq_true this.1
    simp [h2, Bool.and_assoc]

/-- A queue lies in a block of its own. -/
def QuAt (w : World) (b : Nat) (q : Qu) (A : Option Addr) (cap : Nat) : Prop := w.heap[b]? = some (.cells (q.cells A cap) 24 (0, 0))
theorem QuAt.lt {w : World} {b : Nat} {q : Qu} {A : Option Addr} {cap : Nat} (h : QuAt w b q A cap) : b < w.heap.size := (Array.getElem?_eq_some_iff.1 h).1
theorem QuAt.below {w w' : World} {b : Nat} {q : Qu} {A : Option Addr} {cap : Nat} (h : QuAt w b q A cap) (hb : Below w.heap.size w w') : QuAt w' b q A cap := (hb.block b h.lt).trans h
theorem QuAt.cells {w : World} {b : Nat} {q : Qu} {A : Option Addr} {cap : Nat} (h : QuAt w b q A cap) :
    w.cell? ⟨b, 0, none⟩ = some (.slice A q.has.length cap) ∧ w.cell? ⟨b, 1, none⟩ = some (.int .i64 q.most) ∧ w.cell? ⟨b, 2, none⟩ = some (.int .i64 q.mb) ∧ w.cell? ⟨b, 3, none⟩ = some (.int .i64 q.dr) :=
  ⟨cell_of_row _ _ 0 _ _ _ h, cell_of_row _ _ 1 _ _ _ h, cell_of_row _ _ 2 _ _ _ h, cell_of_row _ _ 3 _ _ _ h⟩
theorem QuAt.new (w : World) (q : Qu) (A : Option Addr) (cap : Nat) : QuAt (w.alloc (.cells (q.cells A cap) 24)) w.heap.size q A cap := heap_alloc_new w _

set_option maxRecDepth 100000 in
set_option maxHeartbeats 8000000 in
theorem hRight_any {w : World} {q : Qu} {A : Option Addr} (hP : IntsIn w A q.has) (cap : Nat) :
    Calls Try.prog 11 #[.agg (q.cells A cap)] w fun e w' => e = .returned (.bool q.right) ∧ Below w.heap.size w w' := by
  have HB := Lib.hid ((Below.refl w.heap.size w).alloc (Nat.le_refl _) (.cells #[.slice A q.has.length cap, .int .i64 q.most, .int .i64 q.mb, .int .i64 q.dr] 24))
  have HC := Lib.hid (hBytes_any (q := q) (hP.below HB.out) cap)
  have HX := Lib.hid (right_hb q)
  have HQ := Lib.hid (QuAt.new w q A cap)
  clear hP
  generalize q.right = R at *
  generalize hb q.has = G at *
  unfold Qu.cells at HB HC HQ ⊢
  go_enter Try.func11, Try.ntmps11
  go_wp2_with fail
  generalize w.alloc (.cells #[.slice A q.has.length cap, .int .i64 q.most, .int .i64 q.mb, .int .i64 q.dr] 24) = m at *
  refine HC.out.mono ?_
  rintro e w1 ⟨rfl, hb1⟩
  have HB1 := Lib.hid (HB.out.trans (hb1.mono HB.out.size))
  obtain ⟨hc0, hc1, hc2, hc3⟩ := (HQ.out.below hb1).cells
  clear hb1 HC HB HQ
  go_wp2_with fail
  all_goals
    go_ret
    refine ⟨ret_bool ?_, HB1.out⟩
    rw [HX.out]
    clear HX hc0 hc1 hc2 hc3
    first | (simp [*]; done) | (simp; omega)
end Go.Proofs.Ythjnjfolbhhpnaa
