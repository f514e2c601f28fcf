/- The reference: SameQueue, at two queues that read the same. -/
import Derived.Test.YthjnjfolbhhpnaaRg7
namespace Go.Proofs.Ythjnjfolbhhpnaa
open Go.RowKit Go.Maps

set_option maxRecDepth 100000 in
set_option maxHeartbeats 4000000 in
theorem same_any {w : World} {q : Qu} {A1 A2 : Option Addr} (h1 : IntsIn w A1 q.has) (h2 : IntsIn w A2 q.has) (c1 c2 : Nat) :
    Calls Try.prog 12 #[.agg (q.cells A1 c1), .agg (q.cells A2 c2)] w fun e w' => e = .returned (.bool true) ∧ Below w.heap.size w w' := by
  have b1 : Below w.heap.size w (w.alloc (.cells (q.cells A1 c1) 24)) := (Below.refl _ _).alloc (Nat.le_refl _) _
  have b2 := b1.alloc b1.size (.cells (q.cells A2 c2) 24)
  have q1 : QuAt ((w.alloc (.cells (q.cells A1 c1) 24)).alloc (.cells (q.cells A2 c2) 24)) w.heap.size q A1 c1 := by
    unfold QuAt
    rw [Below.heap_alloc _ _ _ (by simp)]
    exact heap_alloc_new w _
  have q2 : QuAt ((w.alloc (.cells (q.cells A1 c1) 24)).alloc (.cells (q.cells A2 c2) 24)) (w.heap.size + 1) q A2 c2 := by
    have := QuAt.new (w.alloc (.cells (q.cells A1 c1) 24)) q A2 c2
    have e : (w.alloc (.cells (q.cells A1 c1) 24)).heap.size = w.heap.size + 1 := by simp
    rwa [e] at this
  have H1 := Lib.hid (h1.below b2)
  have H2 := Lib.hid (h2.below b2)
  have HB := Lib.hid b2
  have hlen := h1.len
  obtain ⟨x0, x1, x2, x3⟩ := q1.cells
  obtain ⟨y0, y1, y2, y3⟩ := q2.cells
  clear b1 b2 q1 q2 h1 h2
  unfold Qu.cells at *
  obtain ⟨n, hn⟩ : ∃ n, q.has.length = n := ⟨_, rfl⟩
  have HN := Lib.hid hn
  rw [hn] at hlen x0 x1 x2 x3 y0 y1 y2 y3 H1 H2 HB ⊢
  clear hn
  go_enter Try.func12, Try.ntmps12
  go_upto_region 1 with fail
  generalize (w.alloc (.cells #[.slice A1 n c1, .int .i64 q.most, .int .i64 q.mb, .int .i64 q.dr] 24)).alloc (.cells #[.slice A2 n c2, .int .i64 q.most, .int .i64 q.mb, .int .i64 q.dr] 24) = m at *
  go_wp2_with fail
  go_loopg [16] n (fun k c wr => ∃ i t : Nat, c = .int .i64 (i : Int) ∧ i + k = n ∧ wr = m.drewN t)
  case atStart => exact ⟨0, 0, rfl, by omega, rfl⟩
  case round =>
    obtain ⟨i, t, rfl, hik, rfl⟩ := hrel
    cases gk with
    | zero =>
      obtain rfl : i = n := by omega
      clear H1 H2 HN
      go_wp2_with fail
      go_ret
      exact ⟨rfl, ⟨HB.out.os, HB.out.tape, HB.out.output, HB.out.size, HB.out.block⟩⟩
    | succ k =>
      have hi : i < n := by omega
      have i1 : (i : Int) < (n : Int) := by omega
      obtain ⟨b1, o1, x, rfl, hx, hat1, _⟩ := H1.out.next (i := i) (by have := HN.out; omega)
      obtain ⟨b2, o2, y, rfl, hy, hat2, _⟩ := H2.out.next (i := i) (by have := HN.out; omega)
      rw [hx] at hy
      injection hy with hy
      subst hy
      clear hx
      go_wp2_with fail
      go_quiet (fail)
      go_wp2_with fail
      go_roundg k
      case measure => omega
      case rel => exact ⟨i + 1, t + nq, by go_num, by omega, rfl⟩
end Go.Proofs.Ythjnjfolbhhpnaa
