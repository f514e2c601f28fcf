/- ring.Right. -/
import Derived.Test.YthjnjfolbhhpnaaRg1
namespace Go.Proofs.Ythjnjfolbhhpnaa
open Go.RowKit Go.Maps

def Qu.cells (q : Qu) (A : Option Addr) (cap : Nat) : Array Value := #[.slice A q.has.length cap, .int .i64 q.most, .int .i64 q.mb, .int .i64 q.dr]
theorem rightP {q : Qu} {b0 b1 b2 b3 b4 b5 : Bool} (h0 : btw q.most 0 400 = b0) (h1 : btw q.mb 0 1073741824 = b1) (h2 : btw q.dr 0 1099511627776 = b2) (h3 : decide ((q.has.length : Int) ≤ q.most) = b3) (h4 : q.has.any bad = b4) (h5 : decide (tot q.has ≤ q.mb) = b5) :
    q.right = (b0 && (b1 && (b2 && (b3 && (!b4 && b5))))) := by
  unfold Qu.right
  rw [h0, h1, h2, h3, h4, h5]

set_option maxRecDepth 100000 in
set_option maxHeartbeats 8000000 in
theorem right_any {w : World} {q : Qu} {A : Option Addr} (hP : IntsIn w A q.has) (cap : Nat) :
    Calls Try.prog 10 #[.agg (q.cells A cap)] w fun e w' => e = .returned (.bool q.right) ∧ Below w.heap.size w w' := by
  have HT := Lib.hid (fun w hw hs => total_any (w := w) (xs := q.has) (A := A) hw cap hs)
  have HC := Lib.hid (fun w hw => containsFunc_any (w := w) (xs := q.has) (A := A) hw cap)
  have HB : Hid (∀ k, Below w.heap.size w ((w.alloc (.cells #[.slice A q.has.length cap, .int .i64 q.most, .int .i64 q.mb, .int .i64 q.dr] 24)).drewN k)) := Lib.hid (fun k => by
    have h := (Below.refl w.heap.size w).alloc (Nat.le_refl _) (.cells #[.slice A q.has.length cap, .int .i64 q.most, .int .i64 q.mb, .int .i64 q.dr] 24)
    exact ⟨h.os, h.tape, h.output, h.size, h.block⟩)
  have HS := Lib.hid (fun k => hP.below (HB.out k))
  have HX := Lib.hid (rightP (q := q) rfl rfl rfl rfl rfl rfl)
  clear hP
  have HC2 : Hid (∀ w, IntsIn w A q.has → Calls Try.prog 23 #[.slice A q.has.length cap, .func (.func 24) #[] #[]] w fun e w' => e = .returned (.bool (q.has.any bad)) ∧ w = w') := HC
  have HT2 : Hid (∀ w, IntsIn w A q.has → q.has.any bad = false → Calls Try.prog 19 #[.slice A q.has.length cap] w fun e w' => e = .returned (.int .i64 (tot q.has)) ∧ w = w') := HT
  clear HC HT
  have H0 := Lib.hid (fun w => between_eq q.most 0 400 w)
  have H1 := Lib.hid (fun w => between_eq q.mb 0 1073741824 w)
  have H2 := Lib.hid (fun w => between_eq q.dr 0 1099511627776 w)
  generalize q.right = R at *
  unfold Qu.cells
  obtain ⟨xs, most, mb, dr⟩ := q
  dsimp only at *
  generalize xs.length = n at *
  generalize tot xs = T at *
  generalize btw most 0 400 = J0 at *
  generalize btw mb 0 1073741824 = J1 at *
  generalize btw dr 0 1099511627776 = J2 at *
  generalize xs.any bad = J4 at *
  cases J0 with
  | false =>
    go_enter Try.func10, Try.ntmps10
    go_upto_region 1 with fail
    go_quiet (first | (go_at_call 22; with_reducible exact quiet_eq (H0.out _)))
    go_wp2_with fail
    go_ret
    exact ⟨ret_bool HX.out.symm, HB.out _⟩
  | true =>
    cases J1 with
    | false =>
      go_enter Try.func10, Try.ntmps10
      go_upto_region 1 with fail
      go_quiet (first | (go_at_call 22; with_reducible exact quiet_eq (H0.out _)) | (go_at_call 22; with_reducible exact quiet_eq (H1.out _)))
      go_wp2_with fail
      go_ret
      exact ⟨ret_bool HX.out.symm, HB.out _⟩
    | true =>
      cases J2 with
      | false =>
        go_enter Try.func10, Try.ntmps10
        go_upto_region 1 with fail
        go_quiet (first | (go_at_call 22; with_reducible exact quiet_eq (H0.out _)) | (go_at_call 22; with_reducible exact quiet_eq (H1.out _)) | (go_at_call 22; with_reducible exact quiet_eq (H2.out _)))
        go_wp2_with fail
        go_ret
        exact ⟨ret_bool HX.out.symm, HB.out _⟩
      | true =>
        by_cases c : (n : Int) ≤ most
        · have c' : decide ((n : Int) ≤ most) = true := decide_eq_true c
          rw [c'] at HX
          cases J4 with
          | true =>
            go_enter Try.func10, Try.ntmps10
            go_upto_region 1 with fail
            go_quiet (first | (go_at_call 22; with_reducible exact quiet_eq (H0.out _)) | (go_at_call 22; with_reducible exact quiet_eq (H1.out _)) | (go_at_call 22; with_reducible exact quiet_eq (H2.out _)) | (go_at_call 23; with_reducible exact quiet_eq (HC2.out _ (HS.out _))))
            go_wp2_with fail
            go_ret
            exact ⟨ret_bool HX.out.symm, HB.out _⟩
          | false =>
            go_enter Try.func10, Try.ntmps10
            go_upto_region 1 with fail
            go_quiet (first | (go_at_call 22; with_reducible exact quiet_eq (H0.out _)) | (go_at_call 22; with_reducible exact quiet_eq (H1.out _)) | (go_at_call 22; with_reducible exact quiet_eq (H2.out _)) | (go_at_call 23; with_reducible exact quiet_eq (HC2.out _ (HS.out _))) | (go_at_call 19; with_reducible exact quiet_eq (HT2.out _ (HS.out _) rfl)))
            go_wp2_with fail
            go_ret
            exact ⟨ret_bool HX.out.symm, HB.out _⟩
        · have c' : decide ((n : Int) ≤ most) = false := decide_eq_false c
          rw [c'] at HX
          clear c
          go_enter Try.func10, Try.ntmps10
          go_upto_region 1 with fail
          go_quiet (first | (go_at_call 22; with_reducible exact quiet_eq (H0.out _)) | (go_at_call 22; with_reducible exact quiet_eq (H1.out _)) | (go_at_call 22; with_reducible exact quiet_eq (H2.out _)))
          go_wp2_with fail
          go_ret
          exact ⟨ret_bool HX.out.symm, HB.out _⟩
end Go.Proofs.Ythjnjfolbhhpnaa
