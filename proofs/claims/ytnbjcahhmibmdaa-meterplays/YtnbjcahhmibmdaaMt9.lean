/- The reference: JColour where it refuses. -/
import Derived.Test.YtnbjcahhmibmdaaMt8
namespace Go.Proofs.Ytnbjcahhmibmdaa
open Go.RowKit Go.Maps

set_option maxRecDepth 100000 in
set_option maxHeartbeats 8000000 in
theorem jColour_form {b : Mt} {t n had : Int} (hr : b.right = false) (w : World) :
    Calls Try.prog 10 #[.agg b.cells, .agg #[.int .i64 t, .int .i64 n], .int .i64 had] w (Told w (b.colour t n had)) := by
  have HX := Lib.hid (box3 w b t n)
  have HR := Lib.hid (fun W => jRight_any b W)
  rw [hr] at HR
  have HZ : Hid (∀ W, Below w.heap.size w W → Told w (b.colour t n had) (.returned (.tuple #[.agg Mt.zero.cells, .int .i64 0, .int .i64 1])) W) := Lib.hid (fun W hW => told_mk (Mt.colour_form hr) hW)
  clear hr
  obtain ⟨⟨c0, c1, c2, c3, c4, c5⟩, s0, s1⟩ := HX.out.cells
  generalize Told w (b.colour t n had) = D at *
  unfold Mt.cells at HR ⊢
  go_enter Try.func10, Try.ntmps10
  go_upto_region 1 with fail
  change Code.wp _ _ _ _ (three w b t n)
  generalize three w b t n = m at *
  go_wp2_with fail
  refine (HR.out _).mono ?_
  rintro e w1 ⟨rfl, hb⟩
  have HX1 := Lib.hid (HX.out.later hb)
  clear HR hb HX c0 c1 c2 c3 c4 c5 s0 s1
  go_wp2_with (refine wpList_store_mt rfl (.tmp 6) (.tmp 17) rfl (w.heap.size + 1 + 1) Mt.zero Mt.zero rfl rfl HX1.out.third ?_)
  exact bodyPost_ret (results_mt3 6 7 8 rfl _ _ rfl (HX1.out.ended Mt.zero).1) rfl (HZ.out _ (HX1.out.ended Mt.zero).2)

set_option maxRecDepth 100000 in
set_option maxHeartbeats 8000000 in
theorem jColour_low {b : Mt} {t n had : Int} (hr : b.right = true) (hh : had < 1) (w : World) :
    Calls Try.prog 10 #[.agg b.cells, .agg #[.int .i64 t, .int .i64 n], .int .i64 had] w (Told w (b.colour t n had)) := by
  have HX := Lib.hid (box3 w b t n)
  have HR := Lib.hid (fun W => jRight_any b W)
  rw [hr] at HR
  have HZ : Hid (∀ W, Below w.heap.size w W → Told w (b.colour t n had) (.returned (.tuple #[.agg Mt.zero.cells, .int .i64 0, .int .i64 5])) W) := Lib.hid (fun W hW => told_mk (Mt.colour_kind hr (btw_false.2 (.inl hh))) hW)
  clear hr
  obtain ⟨⟨c0, c1, c2, c3, c4, c5⟩, s0, s1⟩ := HX.out.cells
  generalize Told w (b.colour t n had) = D at *
  unfold Mt.cells at HR ⊢
  go_enter Try.func10, Try.ntmps10
  go_upto_region 1 with fail
  change Code.wp _ _ _ _ (three w b t n)
  generalize three w b t n = m at *
  go_wp2_with fail
  refine (HR.out _).mono ?_
  rintro e w1 ⟨rfl, hb⟩
  have HX1 := Lib.hid (HX.out.later hb)
  clear HR hb HX c0 c1 c2 c3 c4 c5 s0 s1
  go_wp2_with (refine wpList_store_mt rfl (.tmp 6) (.tmp 24) rfl (w.heap.size + 1 + 1) Mt.zero Mt.zero rfl rfl HX1.out.third ?_)
  exact bodyPost_ret (results_mt3 6 7 8 rfl _ _ rfl (HX1.out.ended Mt.zero).1) rfl (HZ.out _ (HX1.out.ended Mt.zero).2)

set_option maxRecDepth 100000 in
set_option maxHeartbeats 8000000 in
theorem jColour_high {b : Mt} {t n had : Int} (hr : b.right = true) (h1 : ¬ had < 1) (hh : 3 < had) (w : World) :
    Calls Try.prog 10 #[.agg b.cells, .agg #[.int .i64 t, .int .i64 n], .int .i64 had] w (Told w (b.colour t n had)) := by
  have HX := Lib.hid (box3 w b t n)
  have HR := Lib.hid (fun W => jRight_any b W)
  rw [hr] at HR
  have HZ : Hid (∀ W, Below w.heap.size w W → Told w (b.colour t n had) (.returned (.tuple #[.agg Mt.zero.cells, .int .i64 0, .int .i64 5])) W) := Lib.hid (fun W hW => told_mk (Mt.colour_kind hr (btw_false.2 (.inr hh))) hW)
  clear hr
  obtain ⟨⟨c0, c1, c2, c3, c4, c5⟩, s0, s1⟩ := HX.out.cells
  generalize Told w (b.colour t n had) = D at *
  unfold Mt.cells at HR ⊢
  go_enter Try.func10, Try.ntmps10
  go_upto_region 1 with fail
  change Code.wp _ _ _ _ (three w b t n)
  generalize three w b t n = m at *
  go_wp2_with fail
  refine (HR.out _).mono ?_
  rintro e w1 ⟨rfl, hb⟩
  have HX1 := Lib.hid (HX.out.later hb)
  clear HR hb HX c0 c1 c2 c3 c4 c5 s0 s1
  go_wp2_with (refine wpList_store_mt rfl (.tmp 6) (.tmp 24) rfl (w.heap.size + 1 + 1) Mt.zero Mt.zero rfl rfl HX1.out.third ?_)
  exact bodyPost_ret (results_mt3 6 7 8 rfl _ _ rfl (HX1.out.ended Mt.zero).1) rfl (HZ.out _ (HX1.out.ended Mt.zero).2)

set_option maxRecDepth 100000 in
set_option maxHeartbeats 8000000 in
theorem jColour_range {b : Mt} {t n had : Int} (hr : b.right = true) (h1 : ¬ had < 1) (h3 : ¬ 3 < had) (hb : t < b.tm ∨ (¬ t < b.tm ∧ 1099511627776 < t) ∨ (¬ t < b.tm ∧ ¬ 1099511627776 < t ∧ n < 0) ∨ (¬ t < b.tm ∧ ¬ 1099511627776 < t ∧ ¬ n < 0 ∧ 1048576 < n)) (w : World) :
    Calls Try.prog 10 #[.agg b.cells, .agg #[.int .i64 t, .int .i64 n], .int .i64 had] w (Told w (b.colour t n had)) := by
  have HX := Lib.hid (box3 w b t n)
  have HR := Lib.hid (fun W => jRight_any b W)
  rw [hr] at HR
  have hq : btw t b.tm 1099511627776 = false ∨ btw n 0 1048576 = false := by
    rw [btw_false, btw_false]
    omega
  have HZ : Hid (∀ W, Below w.heap.size w W → Told w (b.colour t n had) (.returned (.tuple #[.agg Mt.zero.cells, .int .i64 0, .int .i64 2])) W) := Lib.hid (fun W hW => told_mk (Mt.colour_range hr (btw_true.2 ⟨by omega, by omega⟩) hq) hW)
  clear hr hq
  rcases hb with k0 | ⟨k0, k1⟩ | ⟨k0, k1, k2⟩ | ⟨k0, k1, k2, k3⟩
  all_goals
    obtain ⟨⟨c0, c1, c2, c3, c4, c5⟩, s0, s1⟩ := HX.out.cells
    generalize Told w (b.colour t n had) = D at *
    unfold Mt.cells at HR ⊢
    go_enter Try.func10, Try.ntmps10
    go_upto_region 1 with fail
    change Code.wp _ _ _ _ (three w b t n)
    generalize three w b t n = m at *
    go_wp2_with fail
    refine (HR.out _).mono ?_
    rintro e w1 ⟨rfl, hb⟩
    have HX1 := Lib.hid (HX.out.later hb)
    clear HR hb HX c0 c1 c2 c3 c4 c5 s0 s1
    obtain ⟨⟨c0, c1, c2, c3, c4, c5⟩, s0, s1⟩ := HX1.out.cells
    go_wp2_with (refine wpList_store_mt rfl (.tmp 6) (.tmp 45) rfl (w.heap.size + 1 + 1) Mt.zero Mt.zero rfl rfl HX1.out.third ?_)
    exact bodyPost_ret (results_mt3 6 7 8 rfl _ _ rfl (HX1.out.ended Mt.zero).1) rfl (HZ.out _ (HX1.out.ended Mt.zero).2)
end Go.Proofs.Ytnbjcahhmibmdaa
