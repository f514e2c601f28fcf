/- The reference for package rules: GFits. -/
import Derived.Test.YtandfbepenjbhaaRuG0
namespace Go.Proofs.Ytandfbepenjbhaa
open Go.RowKit Go.Maps

set_option maxRecDepth 100000 in
set_option maxHeartbeats 4000000 in
theorem gFits_bad (r : Ru) (h : Hd) (hv : ¬ (0 ≤ r.sb ∧ r.sb ≤ 32 ∧ 0 ≤ r.db ∧ r.db ≤ 32)) (w : World) :
    Calls Try.prog 13 #[.agg r.cells.toArray, .agg h.cells.toArray] w fun e w' => e = .returned (.bool (fits h r)) ∧ Below w.heap.size w w' := by
  have HR : Hid (fits h r = false) := Lib.hid (by
    unfold fits
    by_cases c : 0 ≤ r.sb ∧ r.sb ≤ 32
    · rw [show inB h.dst.num r.dpf = false from inB_false (fun k => hv ⟨c.1, c.2, k.1.1, k.1.2⟩)]
      simp
    · rw [show inB h.src.num r.spf = false from inB_false (fun k => c ⟨k.1.1, k.1.2⟩)]
      simp)
  have HB := Lib.hid (two_new w (.cells #[.int .u8 r.src.a0, .int .u8 r.src.a1, .int .u8 r.src.a2, .int .u8 r.src.a3, .int .u8 r.dst.a0, .int .u8 r.dst.a1, .int .u8 r.dst.a2, .int .u8 r.dst.a3, .int .i64 r.sb, .int .i64 r.db, .int .i64 r.pr, .int .i64 r.lo, .int .i64 r.hi, .int .i64 r.cl] 32) (.cells #[.int .u8 h.src.a0, .int .u8 h.src.a1, .int .u8 h.src.a2, .int .u8 h.src.a3, .int .u8 h.dst.a0, .int .u8 h.dst.a1, .int .u8 h.dst.a2, .int .u8 h.dst.a3, .int .i64 h.pr, .int .i64 h.sp, .int .i64 h.dp, .int .i64 h.ln, .int .i64 h.ma] 25)).2.2.1
  generalize fits h r = R at *
  rw [show Calls Try.prog 13 #[.agg r.cells.toArray, .agg h.cells.toArray] w = Calls Try.prog 13 #[.agg #[.int .u8 r.src.a0, .int .u8 r.src.a1, .int .u8 r.src.a2, .int .u8 r.src.a3, .int .u8 r.dst.a0, .int .u8 r.dst.a1, .int .u8 r.dst.a2, .int .u8 r.dst.a3, .int .i64 r.sb, .int .i64 r.db, .int .i64 r.pr, .int .i64 r.lo, .int .i64 r.hi, .int .i64 r.cl], .agg #[.int .u8 h.src.a0, .int .u8 h.src.a1, .int .u8 h.src.a2, .int .u8 h.src.a3, .int .u8 h.dst.a0, .int .u8 h.dst.a1, .int .u8 h.dst.a2, .int .u8 h.dst.a3, .int .i64 h.pr, .int .i64 h.sp, .int .i64 h.dp, .int .i64 h.ln, .int .i64 h.ma]] w from rfl]
  by_cases c0 : 0 ≤ r.sb
  case neg =>
    clear hv
    go_enter Try.func13, Try.ntmps13
    go_wp2_with fail
    go_ret
    exact ⟨ret_bool HR.out.symm, HB.out⟩
  by_cases c1 : r.sb ≤ 32
  case neg =>
    clear hv
    go_enter Try.func13, Try.ntmps13
    go_wp2_with fail
    go_ret
    exact ⟨ret_bool HR.out.symm, HB.out⟩
  by_cases c2 : 0 ≤ r.db
  case neg =>
    clear hv
    go_enter Try.func13, Try.ntmps13
    go_wp2_with fail
    go_ret
    exact ⟨ret_bool HR.out.symm, HB.out⟩
  by_cases c3 : r.db ≤ 32
  case neg =>
    clear hv
    go_enter Try.func13, Try.ntmps13
    go_wp2_with fail
    go_ret
    exact ⟨ret_bool HR.out.symm, HB.out⟩
  exact absurd ⟨c0, c1, c2, c3⟩ hv

set_option maxRecDepth 100000 in
set_option maxHeartbeats 4000000 in
theorem gFits_good (r : Ru) (h : Hd) (hr : r.Ok) (hh : h.Ok) (c0 : 0 ≤ r.sb) (c1 : r.sb ≤ 32) (c2 : 0 ≤ r.db) (c3 : r.db ≤ 32) (w : World) :
    Calls Try.prog 13 #[.agg r.cells.toArray, .agg h.cells.toArray] w fun e w' => e = .returned (.bool (fits h r)) ∧ Below w.heap.size w w' := by
  have H1 : Hid (∀ w, Calls Try.prog 31 #[.agg #[.int .u8 r.src.a0, .int .u8 r.src.a1, .int .u8 r.src.a2, .int .u8 r.src.a3], .int .i64 r.sb] w fun e w' => e = .returned (.int .i64 (fb r.src.num r.sb.toNat)) ∧ Below w.heap.size w w') := Lib.hid (fun w => fBits_int r.src hr.1 r.sb c0 c1 w)
  have H2 : Hid (∀ w, Calls Try.prog 31 #[.agg #[.int .u8 h.src.a0, .int .u8 h.src.a1, .int .u8 h.src.a2, .int .u8 h.src.a3], .int .i64 r.sb] w fun e w' => e = .returned (.int .i64 (fb h.src.num r.sb.toNat)) ∧ Below w.heap.size w w') := Lib.hid (fun w => fBits_int h.src hh.1 r.sb c0 c1 w)
  have H3 : Hid (∀ w, Calls Try.prog 31 #[.agg #[.int .u8 r.dst.a0, .int .u8 r.dst.a1, .int .u8 r.dst.a2, .int .u8 r.dst.a3], .int .i64 r.db] w fun e w' => e = .returned (.int .i64 (fb r.dst.num r.db.toNat)) ∧ Below w.heap.size w w') := Lib.hid (fun w => fBits_int r.dst hr.2 r.db c2 c3 w)
  have H4 : Hid (∀ w, Calls Try.prog 31 #[.agg #[.int .u8 h.dst.a0, .int .u8 h.dst.a1, .int .u8 h.dst.a2, .int .u8 h.dst.a3], .int .i64 r.db] w fun e w' => e = .returned (.int .i64 (fb h.dst.num r.db.toNat)) ∧ Below w.heap.size w w') := Lib.hid (fun w => fBits_int h.dst hh.2 r.db c2 c3 w)
  have T1 : Hid ((fb r.src.num r.sb.toNat == fb h.src.num r.sb.toNat) = inB h.src.num r.spf) := Lib.hid (fb_in h.src.num r.spf c0 c1)
  have T2 : Hid ((fb r.dst.num r.db.toNat == fb h.dst.num r.db.toNat) = inB h.dst.num r.dpf) := Lib.hid (fb_in h.dst.num r.dpf c2 c3)
  have HR : Hid (fits h r = (inB h.src.num r.spf && (inB h.dst.num r.dpf && ((r.pr == 0 || r.pr == h.pr) && (decide (r.lo ≤ h.dp) && decide (h.dp ≤ r.hi)))))) := Lib.hid rfl
  obtain ⟨n1, n2, n3, n4⟩ := two_new w (.cells #[.int .u8 r.src.a0, .int .u8 r.src.a1, .int .u8 r.src.a2, .int .u8 r.src.a3, .int .u8 r.dst.a0, .int .u8 r.dst.a1, .int .u8 r.dst.a2, .int .u8 r.dst.a3, .int .i64 r.sb, .int .i64 r.db, .int .i64 r.pr, .int .i64 r.lo, .int .i64 r.hi, .int .i64 r.cl] 32) (.cells #[.int .u8 h.src.a0, .int .u8 h.src.a1, .int .u8 h.src.a2, .int .u8 h.src.a3, .int .u8 h.dst.a0, .int .u8 h.dst.a1, .int .u8 h.dst.a2, .int .u8 h.dst.a3, .int .i64 h.pr, .int .i64 h.sp, .int .i64 h.dp, .int .i64 h.ln, .int .i64 h.ma] 25)
  have HS : Hid (∀ W, Below ((w.alloc (.cells #[.int .u8 r.src.a0, .int .u8 r.src.a1, .int .u8 r.src.a2, .int .u8 r.src.a3, .int .u8 r.dst.a0, .int .u8 r.dst.a1, .int .u8 r.dst.a2, .int .u8 r.dst.a3, .int .i64 r.sb, .int .i64 r.db, .int .i64 r.pr, .int .i64 r.lo, .int .i64 r.hi, .int .i64 r.cl] 32)).alloc (.cells #[.int .u8 h.src.a0, .int .u8 h.src.a1, .int .u8 h.src.a2, .int .u8 h.src.a3, .int .u8 h.dst.a0, .int .u8 h.dst.a1, .int .u8 h.dst.a2, .int .u8 h.dst.a3, .int .i64 h.pr, .int .i64 h.sp, .int .i64 h.dp, .int .i64 h.ln, .int .i64 h.ma] 25)).heap.size ((w.alloc (.cells #[.int .u8 r.src.a0, .int .u8 r.src.a1, .int .u8 r.src.a2, .int .u8 r.src.a3, .int .u8 r.dst.a0, .int .u8 r.dst.a1, .int .u8 r.dst.a2, .int .u8 r.dst.a3, .int .i64 r.sb, .int .i64 r.db, .int .i64 r.pr, .int .i64 r.lo, .int .i64 r.hi, .int .i64 r.cl] 32)).alloc (.cells #[.int .u8 h.src.a0, .int .u8 h.src.a1, .int .u8 h.src.a2, .int .u8 h.src.a3, .int .u8 h.dst.a0, .int .u8 h.dst.a1, .int .u8 h.dst.a2, .int .u8 h.dst.a3, .int .i64 h.pr, .int .i64 h.sp, .int .i64 h.dp, .int .i64 h.ln, .int .i64 h.ma] 25)) W → (fun W => (W.cell? ⟨w.heap.size, 0, none⟩ = some (.int .u8 r.src.a0) ∧ W.cell? ⟨w.heap.size, 1, none⟩ = some (.int .u8 r.src.a1) ∧ W.cell? ⟨w.heap.size, 2, none⟩ = some (.int .u8 r.src.a2) ∧ W.cell? ⟨w.heap.size, 3, none⟩ = some (.int .u8 r.src.a3) ∧ W.cell? ⟨w.heap.size, 4, none⟩ = some (.int .u8 r.dst.a0) ∧ W.cell? ⟨w.heap.size, 5, none⟩ = some (.int .u8 r.dst.a1) ∧ W.cell? ⟨w.heap.size, 6, none⟩ = some (.int .u8 r.dst.a2) ∧ W.cell? ⟨w.heap.size, 7, none⟩ = some (.int .u8 r.dst.a3) ∧ W.cell? ⟨w.heap.size, 8, none⟩ = some (.int .i64 r.sb) ∧ W.cell? ⟨w.heap.size, 9, none⟩ = some (.int .i64 r.db) ∧ W.cell? ⟨w.heap.size, 10, none⟩ = some (.int .i64 r.pr) ∧ W.cell? ⟨w.heap.size, 11, none⟩ = some (.int .i64 r.lo) ∧ W.cell? ⟨w.heap.size, 12, none⟩ = some (.int .i64 r.hi)) ∧ W.cell? ⟨w.heap.size + 1, 0, none⟩ = some (.int .u8 h.src.a0) ∧ W.cell? ⟨w.heap.size + 1, 1, none⟩ = some (.int .u8 h.src.a1) ∧ W.cell? ⟨w.heap.size + 1, 2, none⟩ = some (.int .u8 h.src.a2) ∧ W.cell? ⟨w.heap.size + 1, 3, none⟩ = some (.int .u8 h.src.a3) ∧ W.cell? ⟨w.heap.size + 1, 4, none⟩ = some (.int .u8 h.dst.a0) ∧ W.cell? ⟨w.heap.size + 1, 5, none⟩ = some (.int .u8 h.dst.a1) ∧ W.cell? ⟨w.heap.size + 1, 6, none⟩ = some (.int .u8 h.dst.a2) ∧ W.cell? ⟨w.heap.size + 1, 7, none⟩ = some (.int .u8 h.dst.a3) ∧ W.cell? ⟨w.heap.size + 1, 8, none⟩ = some (.int .i64 h.pr) ∧ W.cell? ⟨w.heap.size + 1, 9, none⟩ = some (.int .i64 h.sp) ∧ W.cell? ⟨w.heap.size + 1, 10, none⟩ = some (.int .i64 h.dp)) W) := Lib.hid (fun W hW => by
    have e1 := (hW.block _ (by omega)).trans n1
    have e2 := (hW.block _ (by omega)).trans n2
    exact ⟨⟨cell_of_row _ _ 0 _ _ _ e1, cell_of_row _ _ 1 _ _ _ e1, cell_of_row _ _ 2 _ _ _ e1, cell_of_row _ _ 3 _ _ _ e1, cell_of_row _ _ 4 _ _ _ e1, cell_of_row _ _ 5 _ _ _ e1, cell_of_row _ _ 6 _ _ _ e1, cell_of_row _ _ 7 _ _ _ e1, cell_of_row _ _ 8 _ _ _ e1, cell_of_row _ _ 9 _ _ _ e1, cell_of_row _ _ 10 _ _ _ e1, cell_of_row _ _ 11 _ _ _ e1, cell_of_row _ _ 12 _ _ _ e1⟩, cell_of_row _ _ 0 _ _ _ e2, cell_of_row _ _ 1 _ _ _ e2, cell_of_row _ _ 2 _ _ _ e2, cell_of_row _ _ 3 _ _ _ e2, cell_of_row _ _ 4 _ _ _ e2, cell_of_row _ _ 5 _ _ _ e2, cell_of_row _ _ 6 _ _ _ e2, cell_of_row _ _ 7 _ _ _ e2, cell_of_row _ _ 8 _ _ _ e2, cell_of_row _ _ 9 _ _ _ e2, cell_of_row _ _ 10 _ _ _ e2⟩)
  have HB : Hid (∀ W, Below ((w.alloc (.cells #[.int .u8 r.src.a0, .int .u8 r.src.a1, .int .u8 r.src.a2, .int .u8 r.src.a3, .int .u8 r.dst.a0, .int .u8 r.dst.a1, .int .u8 r.dst.a2, .int .u8 r.dst.a3, .int .i64 r.sb, .int .i64 r.db, .int .i64 r.pr, .int .i64 r.lo, .int .i64 r.hi, .int .i64 r.cl] 32)).alloc (.cells #[.int .u8 h.src.a0, .int .u8 h.src.a1, .int .u8 h.src.a2, .int .u8 h.src.a3, .int .u8 h.dst.a0, .int .u8 h.dst.a1, .int .u8 h.dst.a2, .int .u8 h.dst.a3, .int .i64 h.pr, .int .i64 h.sp, .int .i64 h.dp, .int .i64 h.ln, .int .i64 h.ma] 25)).heap.size ((w.alloc (.cells #[.int .u8 r.src.a0, .int .u8 r.src.a1, .int .u8 r.src.a2, .int .u8 r.src.a3, .int .u8 r.dst.a0, .int .u8 r.dst.a1, .int .u8 r.dst.a2, .int .u8 r.dst.a3, .int .i64 r.sb, .int .i64 r.db, .int .i64 r.pr, .int .i64 r.lo, .int .i64 r.hi, .int .i64 r.cl] 32)).alloc (.cells #[.int .u8 h.src.a0, .int .u8 h.src.a1, .int .u8 h.src.a2, .int .u8 h.src.a3, .int .u8 h.dst.a0, .int .u8 h.dst.a1, .int .u8 h.dst.a2, .int .u8 h.dst.a3, .int .i64 h.pr, .int .i64 h.sp, .int .i64 h.dp, .int .i64 h.ln, .int .i64 h.ma] 25)) W → Below w.heap.size w W) := Lib.hid (fun W hW => n3.trans (hW.mono n3.size))
  clear n1 n2 n3 n4 hr hh
  generalize fits h r = R at *
  generalize inB h.src.num r.spf = I1 at *
  generalize inB h.dst.num r.dpf = I2 at *
  generalize fb r.src.num r.sb.toNat = X1 at *
  generalize fb h.src.num r.sb.toNat = Y1 at *
  generalize fb r.dst.num r.db.toNat = X2 at *
  generalize fb h.dst.num r.db.toNat = Y2 at *
  rw [show Calls Try.prog 13 #[.agg r.cells.toArray, .agg h.cells.toArray] w = Calls Try.prog 13 #[.agg #[.int .u8 r.src.a0, .int .u8 r.src.a1, .int .u8 r.src.a2, .int .u8 r.src.a3, .int .u8 r.dst.a0, .int .u8 r.dst.a1, .int .u8 r.dst.a2, .int .u8 r.dst.a3, .int .i64 r.sb, .int .i64 r.db, .int .i64 r.pr, .int .i64 r.lo, .int .i64 r.hi, .int .i64 r.cl], .agg #[.int .u8 h.src.a0, .int .u8 h.src.a1, .int .u8 h.src.a2, .int .u8 h.src.a3, .int .u8 h.dst.a0, .int .u8 h.dst.a1, .int .u8 h.dst.a2, .int .u8 h.dst.a3, .int .i64 h.pr, .int .i64 h.sp, .int .i64 h.dp, .int .i64 h.ln, .int .i64 h.ma]] w from rfl]
  go_enter Try.func13, Try.ntmps13
  go_upto_region 3 with fail
  generalize ((w.alloc (.cells #[.int .u8 r.src.a0, .int .u8 r.src.a1, .int .u8 r.src.a2, .int .u8 r.src.a3, .int .u8 r.dst.a0, .int .u8 r.dst.a1, .int .u8 r.dst.a2, .int .u8 r.dst.a3, .int .i64 r.sb, .int .i64 r.db, .int .i64 r.pr, .int .i64 r.lo, .int .i64 r.hi, .int .i64 r.cl] 32)).alloc (.cells #[.int .u8 h.src.a0, .int .u8 h.src.a1, .int .u8 h.src.a2, .int .u8 h.src.a3, .int .u8 h.dst.a0, .int .u8 h.dst.a1, .int .u8 h.dst.a2, .int .u8 h.dst.a3, .int .i64 h.pr, .int .i64 h.sp, .int .i64 h.dp, .int .i64 h.ln, .int .i64 h.ma] 25)) = m at *
  refine wp_region_held_drew (S := (fun W => (W.cell? ⟨w.heap.size, 0, none⟩ = some (.int .u8 r.src.a0) ∧ W.cell? ⟨w.heap.size, 1, none⟩ = some (.int .u8 r.src.a1) ∧ W.cell? ⟨w.heap.size, 2, none⟩ = some (.int .u8 r.src.a2) ∧ W.cell? ⟨w.heap.size, 3, none⟩ = some (.int .u8 r.src.a3) ∧ W.cell? ⟨w.heap.size, 4, none⟩ = some (.int .u8 r.dst.a0) ∧ W.cell? ⟨w.heap.size, 5, none⟩ = some (.int .u8 r.dst.a1) ∧ W.cell? ⟨w.heap.size, 6, none⟩ = some (.int .u8 r.dst.a2) ∧ W.cell? ⟨w.heap.size, 7, none⟩ = some (.int .u8 r.dst.a3) ∧ W.cell? ⟨w.heap.size, 8, none⟩ = some (.int .i64 r.sb) ∧ W.cell? ⟨w.heap.size, 9, none⟩ = some (.int .i64 r.db) ∧ W.cell? ⟨w.heap.size, 10, none⟩ = some (.int .i64 r.pr) ∧ W.cell? ⟨w.heap.size, 11, none⟩ = some (.int .i64 r.lo) ∧ W.cell? ⟨w.heap.size, 12, none⟩ = some (.int .i64 r.hi)) ∧ W.cell? ⟨w.heap.size + 1, 0, none⟩ = some (.int .u8 h.src.a0) ∧ W.cell? ⟨w.heap.size + 1, 1, none⟩ = some (.int .u8 h.src.a1) ∧ W.cell? ⟨w.heap.size + 1, 2, none⟩ = some (.int .u8 h.src.a2) ∧ W.cell? ⟨w.heap.size + 1, 3, none⟩ = some (.int .u8 h.src.a3) ∧ W.cell? ⟨w.heap.size + 1, 4, none⟩ = some (.int .u8 h.dst.a0) ∧ W.cell? ⟨w.heap.size + 1, 5, none⟩ = some (.int .u8 h.dst.a1) ∧ W.cell? ⟨w.heap.size + 1, 6, none⟩ = some (.int .u8 h.dst.a2) ∧ W.cell? ⟨w.heap.size + 1, 7, none⟩ = some (.int .u8 h.dst.a3) ∧ W.cell? ⟨w.heap.size + 1, 8, none⟩ = some (.int .i64 h.pr) ∧ W.cell? ⟨w.heap.size + 1, 9, none⟩ = some (.int .i64 h.sp) ∧ W.cell? ⟨w.heap.size + 1, 10, none⟩ = some (.int .i64 h.dp))) (by kernel_rfl) (HS.out _ (Below.refl _ _).drew) (fun hHeld => ?_)
  obtain ⟨w0, hw0⟩ : ∃ W0, W0 = m.drew := ⟨_, rfl⟩
  have HB0 : Hid (Below m.heap.size m w0) := Lib.hid (by rw [hw0]; exact (Below.refl _ _).drew)
  rw [← hw0] at hHeld ⊢
  clear hw0
  refine wpAnyH_take (i := 0) (v := ?_) (by simp only [List.getElem?_toArray, List.getElem?_cons_zero] <;> rfl) (by kernel_rfl) (by kernel_rfl) (by kernel_rfl) (by exact fun _ _ _ h => h) (Or.inl ⟨by rfl, ?_⟩) hHeld ?_
  rotate_left
  · intro w hSw; (try dsimp only at hSw); go_simp; (try with_reducible rfl)
  (try simp only [Act.put, List.setIfInBounds_toArray, List.set_cons_zero, List.set_cons_succ])
  refine wpAnyH_take (i := 1) (v := ?_) (by simp only [List.getElem?_toArray, List.getElem?_cons_succ, List.getElem?_cons_zero] <;> rfl) (by kernel_rfl) (by kernel_rfl) (by kernel_rfl) (by exact fun _ _ _ h => h) (Or.inl ⟨by rfl, ?_⟩) hHeld ?_
  rotate_left
  · intro w hSw; (try dsimp only at hSw); go_simp; (try with_reducible rfl)
  (try simp only [Act.put, List.setIfInBounds_toArray, List.set_cons_zero, List.set_cons_succ])
  refine wpAnyH_take (i := 2) (v := ?_) (by simp only [List.getElem?_toArray, List.getElem?_cons_succ, List.getElem?_cons_zero] <;> rfl) (by kernel_rfl) (by kernel_rfl) (by kernel_rfl) (by exact fun _ _ _ h => h) (Or.inl ⟨by rfl, ?_⟩) hHeld ?_
  rotate_left
  · intro w hSw; (try dsimp only at hSw); go_simp; (try with_reducible rfl)
  (try simp only [Act.put, List.setIfInBounds_toArray, List.set_cons_zero, List.set_cons_succ])
  refine wpAnyH_take (i := 3) (v := ?_) (by simp only [List.getElem?_toArray, List.getElem?_cons_succ, List.getElem?_cons_zero] <;> rfl) (by kernel_rfl) (by kernel_rfl) (by kernel_rfl) (by exact fun _ _ _ h => h) (Or.inl ⟨by rfl, ?_⟩) hHeld ?_
  rotate_left
  · intro w hSw; (try dsimp only at hSw); go_simp; (try with_reducible rfl)
  (try simp only [Act.put, List.setIfInBounds_toArray, List.set_cons_zero, List.set_cons_succ])
  refine wpAnyH_take (i := 5) (v := ?_) (by simp only [List.getElem?_toArray, List.getElem?_cons_succ, List.getElem?_cons_zero] <;> rfl) (by kernel_rfl) (by kernel_rfl) (by kernel_rfl) (by exact fun _ _ _ h => h) (Or.inl ⟨by rfl, ?_⟩) hHeld ?_
  rotate_left
  · intro w hSw; (try dsimp only at hSw); go_simp; (try with_reducible rfl)
  (try simp only [Act.put, List.setIfInBounds_toArray, List.set_cons_zero, List.set_cons_succ])
  refine wpAnyH_take (i := 6) (v := ?_) (by simp only [List.getElem?_toArray, List.getElem?_cons_succ, List.getElem?_cons_zero] <;> rfl) (by kernel_rfl) (by kernel_rfl) (by kernel_rfl) (by exact fun _ _ _ h => h) (Or.inl ⟨by rfl, ?_⟩) hHeld ?_
  rotate_left
  · intro w hSw; (try dsimp only at hSw); go_simp; (try with_reducible rfl)
  (try simp only [Act.put, List.setIfInBounds_toArray, List.set_cons_zero, List.set_cons_succ])
  refine wpAnyH_take (i := 7) (v := ?_) (by simp only [List.getElem?_toArray, List.getElem?_cons_succ, List.getElem?_cons_zero] <;> rfl) (by kernel_rfl) (by kernel_rfl) (by kernel_rfl) (by exact fun _ _ _ h => h) (Or.inl ⟨by rfl, ?_⟩) hHeld ?_
  rotate_left
  · intro w hSw; (try dsimp only at hSw); go_simp; (try with_reducible rfl)
  (try simp only [Act.put, List.setIfInBounds_toArray, List.set_cons_zero, List.set_cons_succ])
  refine wpAnyH_take (i := 8) (v := ?_) (by simp only [List.getElem?_toArray, List.getElem?_cons_succ, List.getElem?_cons_zero] <;> rfl) (by kernel_rfl) (by kernel_rfl) (by kernel_rfl) (by exact fun _ _ _ h => h) (Or.inl ⟨by rfl, ?_⟩) hHeld ?_
  rotate_left
  · intro w hSw; (try dsimp only at hSw); go_simp; (try with_reducible rfl)
  (try simp only [Act.put, List.setIfInBounds_toArray, List.set_cons_zero, List.set_cons_succ])
  refine wpAnyH_ready (rs := [4]) (by kernel_rfl) (by simp) ?_
  refine AllReadyH.cons (by simp only [List.getElem?_toArray, List.getElem?_cons_succ, List.getElem?_cons_zero] <;> rfl) (fun K hK => ?_) AllReadyH.nil
  go_simp
  go_at_call 31
  refine (H1.out _).mono ?_
  rintro e w1 ⟨rfl, hb1⟩
  have HB1 := Lib.hid (HB0.out.trans (hb1.mono HB0.out.size))
  clear hb1
  go_wp2_with fail
  refine hK.out _ _ ?_ (fun hHeld => ?_)
  · exact HS.out _ HB1.out
  clear hK K
  (try simp only [Act.put, List.setIfInBounds_toArray, List.set_cons_zero, List.set_cons_succ])
  refine wpAnyH_ready (rs := [9]) (by kernel_rfl) (by simp) ?_
  refine AllReadyH.cons (by simp only [List.getElem?_toArray, List.getElem?_cons_succ, List.getElem?_cons_zero] <;> rfl) (fun K hK => ?_) AllReadyH.nil
  go_simp
  go_at_call 31
  refine (H2.out _).mono ?_
  rintro e w2 ⟨rfl, hb2⟩
  have HB2 := Lib.hid (HB1.out.trans (hb2.mono HB1.out.size))
  clear hb2
  go_wp2_with fail
  refine hK.out _ _ ?_ (fun hHeld => ?_)
  · exact HS.out _ HB2.out
  clear hK K
  (try simp only [Act.put, List.setIfInBounds_toArray, List.set_cons_zero, List.set_cons_succ])
  refine wpAnyH_take (i := 10) (v := ?_) (by simp only [List.getElem?_toArray, List.getElem?_cons_succ, List.getElem?_cons_zero] <;> rfl) (by kernel_rfl) (by kernel_rfl) (by kernel_rfl) (by exact fun _ _ _ h => h) (Or.inl ⟨by rfl, ?_⟩) hHeld ?_
  rotate_left
  · intro w hSw; (try dsimp only at hSw); go_simp; (try with_reducible rfl)
  (try simp only [Act.put, List.setIfInBounds_toArray, List.set_cons_zero, List.set_cons_succ])
  rw [T1.out]
  refine wpAnyH_take (i := 11) (v := ?_) (by simp only [List.getElem?_toArray, List.getElem?_cons_succ, List.getElem?_cons_zero] <;> rfl) (by kernel_rfl) (by kernel_rfl) (by kernel_rfl) (by exact fun _ _ _ h => h) (Or.inl ⟨by rfl, ?_⟩) hHeld ?_
  rotate_left
  · intro w hSw; (try dsimp only at hSw); go_simp; (try with_reducible rfl)
  (try simp only [Act.put, List.setIfInBounds_toArray, List.set_cons_zero, List.set_cons_succ])
  refine wpAnyH_done (by kernel_rfl) ?_ _
  have HS2 : Hid (∀ W, Below w2.heap.size w2 W → (fun W => (W.cell? ⟨w.heap.size, 0, none⟩ = some (.int .u8 r.src.a0) ∧ W.cell? ⟨w.heap.size, 1, none⟩ = some (.int .u8 r.src.a1) ∧ W.cell? ⟨w.heap.size, 2, none⟩ = some (.int .u8 r.src.a2) ∧ W.cell? ⟨w.heap.size, 3, none⟩ = some (.int .u8 r.src.a3) ∧ W.cell? ⟨w.heap.size, 4, none⟩ = some (.int .u8 r.dst.a0) ∧ W.cell? ⟨w.heap.size, 5, none⟩ = some (.int .u8 r.dst.a1) ∧ W.cell? ⟨w.heap.size, 6, none⟩ = some (.int .u8 r.dst.a2) ∧ W.cell? ⟨w.heap.size, 7, none⟩ = some (.int .u8 r.dst.a3) ∧ W.cell? ⟨w.heap.size, 8, none⟩ = some (.int .i64 r.sb) ∧ W.cell? ⟨w.heap.size, 9, none⟩ = some (.int .i64 r.db) ∧ W.cell? ⟨w.heap.size, 10, none⟩ = some (.int .i64 r.pr) ∧ W.cell? ⟨w.heap.size, 11, none⟩ = some (.int .i64 r.lo) ∧ W.cell? ⟨w.heap.size, 12, none⟩ = some (.int .i64 r.hi)) ∧ W.cell? ⟨w.heap.size + 1, 0, none⟩ = some (.int .u8 h.src.a0) ∧ W.cell? ⟨w.heap.size + 1, 1, none⟩ = some (.int .u8 h.src.a1) ∧ W.cell? ⟨w.heap.size + 1, 2, none⟩ = some (.int .u8 h.src.a2) ∧ W.cell? ⟨w.heap.size + 1, 3, none⟩ = some (.int .u8 h.src.a3) ∧ W.cell? ⟨w.heap.size + 1, 4, none⟩ = some (.int .u8 h.dst.a0) ∧ W.cell? ⟨w.heap.size + 1, 5, none⟩ = some (.int .u8 h.dst.a1) ∧ W.cell? ⟨w.heap.size + 1, 6, none⟩ = some (.int .u8 h.dst.a2) ∧ W.cell? ⟨w.heap.size + 1, 7, none⟩ = some (.int .u8 h.dst.a3) ∧ W.cell? ⟨w.heap.size + 1, 8, none⟩ = some (.int .i64 h.pr) ∧ W.cell? ⟨w.heap.size + 1, 9, none⟩ = some (.int .i64 h.sp) ∧ W.cell? ⟨w.heap.size + 1, 10, none⟩ = some (.int .i64 h.dp)) W) := Lib.hid (fun W hW => HS.out W (HB2.out.trans (hW.mono HB2.out.size)))
  have HBB : Hid (∀ W, Below w2.heap.size w2 W → Below w.heap.size w W) := Lib.hid (fun W hW => HB.out W (HB2.out.trans (hW.mono HB2.out.size)))
  clear HS HB HB0 HB1 HB2 hHeld
  go_upto_region 4 with fail
  refine wp_region_held_drew (S := (fun W => (W.cell? ⟨w.heap.size, 0, none⟩ = some (.int .u8 r.src.a0) ∧ W.cell? ⟨w.heap.size, 1, none⟩ = some (.int .u8 r.src.a1) ∧ W.cell? ⟨w.heap.size, 2, none⟩ = some (.int .u8 r.src.a2) ∧ W.cell? ⟨w.heap.size, 3, none⟩ = some (.int .u8 r.src.a3) ∧ W.cell? ⟨w.heap.size, 4, none⟩ = some (.int .u8 r.dst.a0) ∧ W.cell? ⟨w.heap.size, 5, none⟩ = some (.int .u8 r.dst.a1) ∧ W.cell? ⟨w.heap.size, 6, none⟩ = some (.int .u8 r.dst.a2) ∧ W.cell? ⟨w.heap.size, 7, none⟩ = some (.int .u8 r.dst.a3) ∧ W.cell? ⟨w.heap.size, 8, none⟩ = some (.int .i64 r.sb) ∧ W.cell? ⟨w.heap.size, 9, none⟩ = some (.int .i64 r.db) ∧ W.cell? ⟨w.heap.size, 10, none⟩ = some (.int .i64 r.pr) ∧ W.cell? ⟨w.heap.size, 11, none⟩ = some (.int .i64 r.lo) ∧ W.cell? ⟨w.heap.size, 12, none⟩ = some (.int .i64 r.hi)) ∧ W.cell? ⟨w.heap.size + 1, 0, none⟩ = some (.int .u8 h.src.a0) ∧ W.cell? ⟨w.heap.size + 1, 1, none⟩ = some (.int .u8 h.src.a1) ∧ W.cell? ⟨w.heap.size + 1, 2, none⟩ = some (.int .u8 h.src.a2) ∧ W.cell? ⟨w.heap.size + 1, 3, none⟩ = some (.int .u8 h.src.a3) ∧ W.cell? ⟨w.heap.size + 1, 4, none⟩ = some (.int .u8 h.dst.a0) ∧ W.cell? ⟨w.heap.size + 1, 5, none⟩ = some (.int .u8 h.dst.a1) ∧ W.cell? ⟨w.heap.size + 1, 6, none⟩ = some (.int .u8 h.dst.a2) ∧ W.cell? ⟨w.heap.size + 1, 7, none⟩ = some (.int .u8 h.dst.a3) ∧ W.cell? ⟨w.heap.size + 1, 8, none⟩ = some (.int .i64 h.pr) ∧ W.cell? ⟨w.heap.size + 1, 9, none⟩ = some (.int .i64 h.sp) ∧ W.cell? ⟨w.heap.size + 1, 10, none⟩ = some (.int .i64 h.dp))) (by kernel_rfl) (HS2.out _ (Below.refl _ _).drew) (fun hHeld => ?_)
  obtain ⟨v0, hv0⟩ : ∃ W0, W0 = w2.drew := ⟨_, rfl⟩
  have HB0 : Hid (Below w2.heap.size w2 v0) := Lib.hid (by rw [hv0]; exact (Below.refl _ _).drew)
  rw [← hv0] at hHeld ⊢
  clear hv0
  refine wpAnyH_take (i := 0) (v := ?_) (by simp only [List.getElem?_toArray, List.getElem?_cons_zero] <;> rfl) (by kernel_rfl) (by kernel_rfl) (by kernel_rfl) (by exact fun _ _ _ h => h) (Or.inl ⟨by rfl, ?_⟩) hHeld ?_
  rotate_left
  · intro w hSw; (try dsimp only at hSw); go_simp; (try with_reducible rfl)
  (try simp only [Act.put, List.setIfInBounds_toArray, List.set_cons_zero, List.set_cons_succ])
  refine wpAnyH_take (i := 1) (v := ?_) (by simp only [List.getElem?_toArray, List.getElem?_cons_succ, List.getElem?_cons_zero] <;> rfl) (by kernel_rfl) (by kernel_rfl) (by kernel_rfl) (by exact fun _ _ _ h => h) (Or.inl ⟨by rfl, ?_⟩) hHeld ?_
  rotate_left
  · intro w hSw; (try dsimp only at hSw); go_simp; (try with_reducible rfl)
  (try simp only [Act.put, List.setIfInBounds_toArray, List.set_cons_zero, List.set_cons_succ])
  refine wpAnyH_take (i := 2) (v := ?_) (by simp only [List.getElem?_toArray, List.getElem?_cons_succ, List.getElem?_cons_zero] <;> rfl) (by kernel_rfl) (by kernel_rfl) (by kernel_rfl) (by exact fun _ _ _ h => h) (Or.inl ⟨by rfl, ?_⟩) hHeld ?_
  rotate_left
  · intro w hSw; (try dsimp only at hSw); go_simp; (try with_reducible rfl)
  (try simp only [Act.put, List.setIfInBounds_toArray, List.set_cons_zero, List.set_cons_succ])
  refine wpAnyH_take (i := 3) (v := ?_) (by simp only [List.getElem?_toArray, List.getElem?_cons_succ, List.getElem?_cons_zero] <;> rfl) (by kernel_rfl) (by kernel_rfl) (by kernel_rfl) (by exact fun _ _ _ h => h) (Or.inl ⟨by rfl, ?_⟩) hHeld ?_
  rotate_left
  · intro w hSw; (try dsimp only at hSw); go_simp; (try with_reducible rfl)
  (try simp only [Act.put, List.setIfInBounds_toArray, List.set_cons_zero, List.set_cons_succ])
  refine wpAnyH_take (i := 5) (v := ?_) (by simp only [List.getElem?_toArray, List.getElem?_cons_succ, List.getElem?_cons_zero] <;> rfl) (by kernel_rfl) (by kernel_rfl) (by kernel_rfl) (by exact fun _ _ _ h => h) (Or.inl ⟨by rfl, ?_⟩) hHeld ?_
  rotate_left
  · intro w hSw; (try dsimp only at hSw); go_simp; (try with_reducible rfl)
  (try simp only [Act.put, List.setIfInBounds_toArray, List.set_cons_zero, List.set_cons_succ])
  refine wpAnyH_take (i := 6) (v := ?_) (by simp only [List.getElem?_toArray, List.getElem?_cons_succ, List.getElem?_cons_zero] <;> rfl) (by kernel_rfl) (by kernel_rfl) (by kernel_rfl) (by exact fun _ _ _ h => h) (Or.inl ⟨by rfl, ?_⟩) hHeld ?_
  rotate_left
  · intro w hSw; (try dsimp only at hSw); go_simp; (try with_reducible rfl)
  (try simp only [Act.put, List.setIfInBounds_toArray, List.set_cons_zero, List.set_cons_succ])
  refine wpAnyH_take (i := 7) (v := ?_) (by simp only [List.getElem?_toArray, List.getElem?_cons_succ, List.getElem?_cons_zero] <;> rfl) (by kernel_rfl) (by kernel_rfl) (by kernel_rfl) (by exact fun _ _ _ h => h) (Or.inl ⟨by rfl, ?_⟩) hHeld ?_
  rotate_left
  · intro w hSw; (try dsimp only at hSw); go_simp; (try with_reducible rfl)
  (try simp only [Act.put, List.setIfInBounds_toArray, List.set_cons_zero, List.set_cons_succ])
  refine wpAnyH_take (i := 8) (v := ?_) (by simp only [List.getElem?_toArray, List.getElem?_cons_succ, List.getElem?_cons_zero] <;> rfl) (by kernel_rfl) (by kernel_rfl) (by kernel_rfl) (by exact fun _ _ _ h => h) (Or.inl ⟨by rfl, ?_⟩) hHeld ?_
  rotate_left
  · intro w hSw; (try dsimp only at hSw); go_simp; (try with_reducible rfl)
  (try simp only [Act.put, List.setIfInBounds_toArray, List.set_cons_zero, List.set_cons_succ])
  refine wpAnyH_ready (rs := [4]) (by kernel_rfl) (by simp) ?_
  refine AllReadyH.cons (by simp only [List.getElem?_toArray, List.getElem?_cons_succ, List.getElem?_cons_zero] <;> rfl) (fun K hK => ?_) AllReadyH.nil
  go_simp
  go_at_call 31
  refine (H3.out _).mono ?_
  rintro e v1 ⟨rfl, hb1⟩
  have HB1 := Lib.hid (HB0.out.trans (hb1.mono HB0.out.size))
  clear hb1
  go_wp2_with fail
  refine hK.out _ _ ?_ (fun hHeld => ?_)
  · exact HS2.out _ HB1.out
  clear hK K
  (try simp only [Act.put, List.setIfInBounds_toArray, List.set_cons_zero, List.set_cons_succ])
  refine wpAnyH_ready (rs := [9]) (by kernel_rfl) (by simp) ?_
  refine AllReadyH.cons (by simp only [List.getElem?_toArray, List.getElem?_cons_succ, List.getElem?_cons_zero] <;> rfl) (fun K hK => ?_) AllReadyH.nil
  go_simp
  go_at_call 31
  refine (H4.out _).mono ?_
  rintro e v2 ⟨rfl, hb2⟩
  have HB2 := Lib.hid (HB1.out.trans (hb2.mono HB1.out.size))
  clear hb2
  go_wp2_with fail
  refine hK.out _ _ ?_ (fun hHeld => ?_)
  · exact HS2.out _ HB2.out
  clear hK K
  (try simp only [Act.put, List.setIfInBounds_toArray, List.set_cons_zero, List.set_cons_succ])
  refine wpAnyH_take (i := 10) (v := ?_) (by simp only [List.getElem?_toArray, List.getElem?_cons_succ, List.getElem?_cons_zero] <;> rfl) (by kernel_rfl) (by kernel_rfl) (by kernel_rfl) (by exact fun _ _ _ h => h) (Or.inl ⟨by rfl, ?_⟩) hHeld ?_
  rotate_left
  · intro w hSw; (try dsimp only at hSw); go_simp; (try with_reducible rfl)
  (try simp only [Act.put, List.setIfInBounds_toArray, List.set_cons_zero, List.set_cons_succ])
  rw [T2.out]
  refine wpAnyH_take (i := 11) (v := ?_) (by simp only [List.getElem?_toArray, List.getElem?_cons_succ, List.getElem?_cons_zero] <;> rfl) (by kernel_rfl) (by kernel_rfl) (by kernel_rfl) (by exact fun _ _ _ h => h) (Or.inl ⟨by rfl, ?_⟩) hHeld ?_
  rotate_left
  · intro w hSw; (try dsimp only at hSw); go_simp; (try with_reducible rfl)
  (try simp only [Act.put, List.setIfInBounds_toArray, List.set_cons_zero, List.set_cons_succ])
  refine wpAnyH_done (by kernel_rfl) ?_ _
  have hf := HS2.out _ HB2.out
  have HE := Lib.hid (HBB.out _ HB2.out)
  clear HS2 HBB HB0 HB1 HB2 hHeld H1 H2 H3 H4 T1 T2
  obtain ⟨⟨r0, r1, r2, r3, r4, r5, r6, r7, r8, r9, r10, r11, r12⟩, g0, g1, g2, g3, g4, g5, g6, g7, g8, g9, g10⟩ := hf
  clear r0 r1 r2 r3 r4 r5 r6 r7 r8 r9 g0 g1 g2 g3 g4 g5 g6 g7 g9
  cases I1 with
  | false =>
    go_wp2_with fail
    go_ret
    exact ⟨ret_bool (by rw [HR.out]; simp), HE.out⟩
  | true =>
    cases I2 with
    | false =>
      go_wp2_with fail
      go_ret
      exact ⟨ret_bool (by rw [HR.out]; simp), HE.out⟩
    | true =>
      cases c5 : (r.pr == h.pr) with
      | true =>
        by_cases c6 : r.lo ≤ h.dp
        · go_wp2_with fail
          go_ret
          exact ⟨ret_bool (by rw [HR.out]; simp [c5, c6]), HE.out⟩
        · go_wp2_with fail
          go_ret
          exact ⟨ret_bool (by rw [HR.out]; simp [c5]; omega), HE.out⟩
      | false =>
        cases c7 : (r.pr == 0) with
        | false =>
          go_wp2_with fail
          go_ret
          exact ⟨ret_bool (by rw [HR.out]; simp [c5, c7]), HE.out⟩
        | true =>
          by_cases c6 : r.lo ≤ h.dp
          · go_wp2_with fail
            go_ret
            exact ⟨ret_bool (by rw [HR.out]; simp [c5, c7, c6]), HE.out⟩
          · go_wp2_with fail
            go_ret
            exact ⟨ret_bool (by rw [HR.out]; simp [c5, c7]; omega), HE.out⟩
theorem gFits_any (r : Ru) (h : Hd) (hr : r.Ok) (hh : h.Ok) (w : World) :
    Calls Try.prog 13 #[.agg r.cells.toArray, .agg h.cells.toArray] w fun e w' => e = .returned (.bool (fits h r)) ∧ Below w.heap.size w w' := by
  by_cases c : 0 ≤ r.sb ∧ r.sb ≤ 32 ∧ 0 ≤ r.db ∧ r.db ≤ 32
  · exact gFits_good r h hr hh c.1 c.2.1 c.2.2.1 c.2.2.2 w
  · exact gFits_bad r h c w
end Go.Proofs.Ytandfbepenjbhaa
