/- meter.mark. -/
import Derived.Test.YtnbjcahhmibmdaaMt2
namespace Go.Proofs.Ytnbjcahhmibmdaa
open Go.RowKit Go.Maps

/-- A meter and a colour are the answer; nothing old has turned. -/
def Marked (w : World) (r : Mt × Int) (e : Ending) (w' : World) : Prop := e = .returned (.tuple #[.agg r.1.cells, .int .i64 r.2]) ∧ Below w.heap.size w w'
theorem marked_mk {w W : World} {r : Mt × Int} {b : Mt} {c : Int} (h : r = (b, c)) (hb : Below w.heap.size w W) : Marked w r (.returned (.tuple #[.agg b.cells, .int .i64 c])) W := by
  rw [h]
  exact ⟨rfl, hb⟩
theorem mark_green {b : Mt} {n : Int} (h : n ≤ b.fst) : b.mark n 1 = (⟨b.rate, b.burst, b.exc, b.fst - n, b.snd, b.tm⟩, 1) := by unfold Mt.mark; rw [if_pos ⟨rfl, h⟩]
theorem mark_yellow {b : Mt} {n had : Int} (h1 : had ≠ 1 ∨ ¬ n ≤ b.fst) (h3 : had ≠ 3) (h : n ≤ b.snd) : b.mark n had = (⟨b.rate, b.burst, b.exc, b.fst, b.snd - n, b.tm⟩, 2) := by
  unfold Mt.mark
  rw [if_neg (by rintro ⟨a, c⟩; rcases h1 with h1 | h1; exact h1 a; exact h1 c), if_pos ⟨h3, h⟩]
theorem mark_red {b : Mt} {n had : Int} (h1 : had ≠ 1 ∨ ¬ n ≤ b.fst) (h : had = 3 ∨ ¬ n ≤ b.snd) : b.mark n had = (b, 3) := by
  unfold Mt.mark
  rw [if_neg (by rintro ⟨a, c⟩; rcases h1 with h1 | h1; exact h1 a; exact h1 c), if_neg (by rintro ⟨a, c⟩; rcases h with h | h; exact a h; exact h c)]

set_option maxRecDepth 100000 in
set_option maxHeartbeats 8000000 in
theorem mark1_green {b : Mt} (hok : b.Ok) {n : Int} (n0 : 0 ≤ n) (h1 : n ≤ b.fst) (h2 : n ≤ 1048576) (w : World) :
    Calls Try.prog 17 #[.agg b.cells, .int .i64 n, .int .i64 1] w (Marked w (b.mark n 1)) := by
  obtain ⟨F, e1, hF⟩ : ∃ F, wrap64 (b.fst - n) = F ∧ b.fst - n = F := ⟨_, w64 (by have := hok.f0; have := hok.f1; have := hok.s0; have := hok.s1; have := hok.b1; have := hok.e1; omega) (by have := hok.f0; have := hok.f1; have := hok.s0; have := hok.s1; have := hok.b1; have := hok.e1; omega), rfl⟩
  have HZ : Hid (∀ W, Below w.heap.size w W → Marked w (b.mark n 1) (.returned (.tuple #[.agg (Mt.cells ⟨b.rate, b.burst, b.exc, F, b.snd, b.tm⟩), .int .i64 1])) W) := Lib.hid (fun W hW => marked_mk (by rw [mark_green h1, hF]) hW)
  clear hF hok n0 h2
  have HX := Lib.hid (boxM_at w b)
  obtain ⟨c0, c1, c2, c3, c4, c5⟩ := HX.out.first.cells
  have f3 := HX.out.first.frozen 3
  have f4 := HX.out.first.frozen 4
  generalize Marked w (b.mark n 1) = D at *
  unfold Mt.cells
  go_enter Try.func17, Try.ntmps17
  go_upto_region 1 with fail
  change Code.wp _ _ _ _ (boxM w b)
  generalize boxM w b = m at *
  have HB := Lib.hid (HX.out.below.setCell (p := ⟨w.heap.size, 3, none⟩) (Nat.le_refl _) (.int .i64 F))
  have HR : Hid (MtAt (m.setCell ⟨w.heap.size, 3, none⟩ (.int .i64 F)) (w.heap.size + 1) Mt.zero) := Lib.hid (HX.out.second.other ⟨w.heap.size, 3, none⟩ _ (by simp))
  have HN : Hid (MtAt (m.setCell ⟨w.heap.size, 3, none⟩ (.int .i64 F)) w.heap.size ⟨b.rate, b.burst, b.exc, F, b.snd, b.tm⟩) := Lib.hid (HX.out.first.fst F)
  go_upto_region 3 with fail
  clear c0 c1 c2 c3 c4 c5 f3 f4 HX
  generalize m.setCell ⟨w.heap.size, 3, none⟩ (.int .i64 F) = m2 at *
  go_wp2_with (first | (refine wpList_load_mt rfl (.tmp 3) rfl w.heap.size ⟨b.rate, b.burst, b.exc, F, b.snd, b.tm⟩ rfl HN.out ?_) | (refine wpList_store_mt rfl (.tmp 6) (.tmp 21) rfl (w.heap.size + 1) ⟨b.rate, b.burst, b.exc, F, b.snd, b.tm⟩ Mt.zero rfl rfl HR.out ?_))
  exact bodyPost_ret (results_mt2 6 7 rfl _ _ rfl (HR.out.stored ⟨b.rate, b.burst, b.exc, F, b.snd, b.tm⟩)) rfl (HZ.out _ (below_setRow HB.out (Nat.le_succ w.heap.size) _))

set_option maxRecDepth 100000 in
set_option maxHeartbeats 8000000 in
theorem mark1_yellow {b : Mt} (hok : b.Ok) {n : Int} (h1 : ¬ n ≤ b.fst) (h3 : n ≤ b.snd) (w : World) :
    Calls Try.prog 17 #[.agg b.cells, .int .i64 n, .int .i64 1] w (Marked w (b.mark n 1)) := by
  obtain ⟨F, e1, hF⟩ : ∃ F, wrap64 (b.snd - n) = F ∧ b.snd - n = F := ⟨_, w64 (by have := hok.f0; have := hok.f1; have := hok.s0; have := hok.s1; have := hok.b1; have := hok.e1; omega) (by have := hok.f0; have := hok.f1; have := hok.s0; have := hok.s1; have := hok.b1; have := hok.e1; omega), rfl⟩
  have HZ : Hid (∀ W, Below w.heap.size w W → Marked w (b.mark n 1) (.returned (.tuple #[.agg (Mt.cells ⟨b.rate, b.burst, b.exc, b.fst, F, b.tm⟩), .int .i64 2])) W) := Lib.hid (fun W hW => marked_mk (by rw [mark_yellow (.inr h1) (by decide) h3, hF]) hW)
  clear hF hok
  have HX := Lib.hid (boxM_at w b)
  obtain ⟨c0, c1, c2, c3, c4, c5⟩ := HX.out.first.cells
  have f3 := HX.out.first.frozen 3
  have f4 := HX.out.first.frozen 4
  generalize Marked w (b.mark n 1) = D at *
  unfold Mt.cells
  go_enter Try.func17, Try.ntmps17
  go_upto_region 1 with fail
  change Code.wp _ _ _ _ (boxM w b)
  generalize boxM w b = m at *
  have HB := Lib.hid (HX.out.below.setCell (p := ⟨w.heap.size, 4, none⟩) (Nat.le_refl _) (.int .i64 F))
  have HR : Hid (MtAt (m.setCell ⟨w.heap.size, 4, none⟩ (.int .i64 F)) (w.heap.size + 1) Mt.zero) := Lib.hid (HX.out.second.other ⟨w.heap.size, 4, none⟩ _ (by simp))
  have HN : Hid (MtAt (m.setCell ⟨w.heap.size, 4, none⟩ (.int .i64 F)) w.heap.size ⟨b.rate, b.burst, b.exc, b.fst, F, b.tm⟩) := Lib.hid (HX.out.first.snd F)
  go_upto_region 6 with fail
  clear c0 c1 c2 c3 c4 c5 f3 f4 HX
  generalize m.setCell ⟨w.heap.size, 4, none⟩ (.int .i64 F) = m2 at *
  go_wp2_with (first | (refine wpList_load_mt rfl (.tmp 3) rfl w.heap.size ⟨b.rate, b.burst, b.exc, b.fst, F, b.tm⟩ rfl HN.out ?_) | (refine wpList_store_mt rfl (.tmp 6) (.tmp 35) rfl (w.heap.size + 1) ⟨b.rate, b.burst, b.exc, b.fst, F, b.tm⟩ Mt.zero rfl rfl HR.out ?_))
  exact bodyPost_ret (results_mt2 6 7 rfl _ _ rfl (HR.out.stored ⟨b.rate, b.burst, b.exc, b.fst, F, b.tm⟩)) rfl (HZ.out _ (below_setRow HB.out (Nat.le_succ w.heap.size) _))

set_option maxRecDepth 100000 in
set_option maxHeartbeats 8000000 in
theorem mark2_yellow {b : Mt} (hok : b.Ok) {n : Int} (n0 : 0 ≤ n) (h3 : n ≤ b.snd) (h2 : n ≤ 1048576) (w : World) :
    Calls Try.prog 17 #[.agg b.cells, .int .i64 n, .int .i64 2] w (Marked w (b.mark n 2)) := by
  obtain ⟨F, e1, hF⟩ : ∃ F, wrap64 (b.snd - n) = F ∧ b.snd - n = F := ⟨_, w64 (by have := hok.f0; have := hok.f1; have := hok.s0; have := hok.s1; have := hok.b1; have := hok.e1; omega) (by have := hok.f0; have := hok.f1; have := hok.s0; have := hok.s1; have := hok.b1; have := hok.e1; omega), rfl⟩
  have HZ : Hid (∀ W, Below w.heap.size w W → Marked w (b.mark n 2) (.returned (.tuple #[.agg (Mt.cells ⟨b.rate, b.burst, b.exc, b.fst, F, b.tm⟩), .int .i64 2])) W) := Lib.hid (fun W hW => marked_mk (by rw [mark_yellow (.inl (by decide)) (by decide) h3, hF]) hW)
  clear hF hok n0 h2
  have HX := Lib.hid (boxM_at w b)
  obtain ⟨c0, c1, c2, c3, c4, c5⟩ := HX.out.first.cells
  have f3 := HX.out.first.frozen 3
  have f4 := HX.out.first.frozen 4
  generalize Marked w (b.mark n 2) = D at *
  unfold Mt.cells
  go_enter Try.func17, Try.ntmps17
  go_upto_region 1 with fail
  change Code.wp _ _ _ _ (boxM w b)
  generalize boxM w b = m at *
  have HB := Lib.hid (HX.out.below.setCell (p := ⟨w.heap.size, 4, none⟩) (Nat.le_refl _) (.int .i64 F))
  have HR : Hid (MtAt (m.setCell ⟨w.heap.size, 4, none⟩ (.int .i64 F)) (w.heap.size + 1) Mt.zero) := Lib.hid (HX.out.second.other ⟨w.heap.size, 4, none⟩ _ (by simp))
  have HN : Hid (MtAt (m.setCell ⟨w.heap.size, 4, none⟩ (.int .i64 F)) w.heap.size ⟨b.rate, b.burst, b.exc, b.fst, F, b.tm⟩) := Lib.hid (HX.out.first.snd F)
  go_upto_region 6 with fail
  clear c0 c1 c2 c3 c4 c5 f3 f4 HX
  generalize m.setCell ⟨w.heap.size, 4, none⟩ (.int .i64 F) = m2 at *
  go_wp2_with (first | (refine wpList_load_mt rfl (.tmp 3) rfl w.heap.size ⟨b.rate, b.burst, b.exc, b.fst, F, b.tm⟩ rfl HN.out ?_) | (refine wpList_store_mt rfl (.tmp 6) (.tmp 35) rfl (w.heap.size + 1) ⟨b.rate, b.burst, b.exc, b.fst, F, b.tm⟩ Mt.zero rfl rfl HR.out ?_))
  exact bodyPost_ret (results_mt2 6 7 rfl _ _ rfl (HR.out.stored ⟨b.rate, b.burst, b.exc, b.fst, F, b.tm⟩)) rfl (HZ.out _ (below_setRow HB.out (Nat.le_succ w.heap.size) _))

set_option maxRecDepth 100000 in
set_option maxHeartbeats 8000000 in
theorem mark1_red {b : Mt} {n : Int} (h1 : ¬ n ≤ b.fst) (h3 : ¬ n ≤ b.snd) (w : World) :
    Calls Try.prog 17 #[.agg b.cells, .int .i64 n, .int .i64 1] w (Marked w (b.mark n 1)) := by
  have HZ : Hid (∀ W, Below w.heap.size w W → Marked w (b.mark n 1) (.returned (.tuple #[.agg (Mt.cells b), .int .i64 3])) W) := Lib.hid (fun W hW => marked_mk (by exact mark_red (.inr h1) (.inr h3)) hW)
  have HX := Lib.hid (boxM_at w b)
  obtain ⟨c0, c1, c2, c3, c4, c5⟩ := HX.out.first.cells
  have f3 := HX.out.first.frozen 3
  have f4 := HX.out.first.frozen 4
  generalize Marked w (b.mark n 1) = D at *
  unfold Mt.cells
  go_enter Try.func17, Try.ntmps17
  go_upto_region 1 with fail
  change Code.wp _ _ _ _ (boxM w b)
  generalize boxM w b = m at *
  go_wp2_with (first | (refine wpList_load_mt rfl (.tmp 3) rfl w.heap.size b rfl HX.out.first ?_) | (refine wpList_store_mt rfl (.tmp 6) (.tmp 36) rfl (w.heap.size + 1) b Mt.zero rfl rfl HX.out.second ?_))
  exact bodyPost_ret (results_mt2 6 7 rfl _ _ rfl (HX.out.second.stored b)) rfl (HZ.out _ (below_setRow HX.out.below (Nat.le_succ w.heap.size) _))

set_option maxRecDepth 100000 in
set_option maxHeartbeats 8000000 in
theorem mark2_red {b : Mt} {n : Int} (h3 : ¬ n ≤ b.snd) (w : World) :
    Calls Try.prog 17 #[.agg b.cells, .int .i64 n, .int .i64 2] w (Marked w (b.mark n 2)) := by
  have HZ : Hid (∀ W, Below w.heap.size w W → Marked w (b.mark n 2) (.returned (.tuple #[.agg (Mt.cells b), .int .i64 3])) W) := Lib.hid (fun W hW => marked_mk (by exact mark_red (.inl (by decide)) (.inr h3)) hW)
  have HX := Lib.hid (boxM_at w b)
  obtain ⟨c0, c1, c2, c3, c4, c5⟩ := HX.out.first.cells
  have f3 := HX.out.first.frozen 3
  have f4 := HX.out.first.frozen 4
  generalize Marked w (b.mark n 2) = D at *
  unfold Mt.cells
  go_enter Try.func17, Try.ntmps17
  go_upto_region 1 with fail
  change Code.wp _ _ _ _ (boxM w b)
  generalize boxM w b = m at *
  go_wp2_with (first | (refine wpList_load_mt rfl (.tmp 3) rfl w.heap.size b rfl HX.out.first ?_) | (refine wpList_store_mt rfl (.tmp 6) (.tmp 36) rfl (w.heap.size + 1) b Mt.zero rfl rfl HX.out.second ?_))
  exact bodyPost_ret (results_mt2 6 7 rfl _ _ rfl (HX.out.second.stored b)) rfl (HZ.out _ (below_setRow HX.out.below (Nat.le_succ w.heap.size) _))

set_option maxRecDepth 100000 in
set_option maxHeartbeats 8000000 in
theorem mark3_red {b : Mt} {n : Int} (w : World) :
    Calls Try.prog 17 #[.agg b.cells, .int .i64 n, .int .i64 3] w (Marked w (b.mark n 3)) := by
  have HZ : Hid (∀ W, Below w.heap.size w W → Marked w (b.mark n 3) (.returned (.tuple #[.agg (Mt.cells b), .int .i64 3])) W) := Lib.hid (fun W hW => marked_mk (by exact mark_red (.inl (by decide)) (.inl rfl)) hW)
  have HX := Lib.hid (boxM_at w b)
  obtain ⟨c0, c1, c2, c3, c4, c5⟩ := HX.out.first.cells
  have f3 := HX.out.first.frozen 3
  have f4 := HX.out.first.frozen 4
  generalize Marked w (b.mark n 3) = D at *
  unfold Mt.cells
  go_enter Try.func17, Try.ntmps17
  go_upto_region 1 with fail
  change Code.wp _ _ _ _ (boxM w b)
  generalize boxM w b = m at *
  go_wp2_with (first | (refine wpList_load_mt rfl (.tmp 3) rfl w.heap.size b rfl HX.out.first ?_) | (refine wpList_store_mt rfl (.tmp 6) (.tmp 36) rfl (w.heap.size + 1) b Mt.zero rfl rfl HX.out.second ?_))
  exact bodyPost_ret (results_mt2 6 7 rfl _ _ rfl (HX.out.second.stored b)) rfl (HZ.out _ (below_setRow HX.out.below (Nat.le_succ w.heap.size) _))

theorem mark_any {b : Mt} (hok : b.Ok) {n had : Int} (n0 : 0 ≤ n) (n1 : n ≤ 1048576) (h1 : 1 ≤ had) (h3 : had ≤ 3) (w : World) :
    Calls Try.prog 17 #[.agg b.cells, .int .i64 n, .int .i64 had] w (Marked w (b.mark n had)) := by
  rcases (by omega : had = 1 ∨ had = 2 ∨ had = 3) with rfl | rfl | rfl
  · by_cases c : n ≤ b.fst
    · exact mark1_green hok n0 c n1 w
    · by_cases d : n ≤ b.snd
      · exact mark1_yellow hok c d w
      · exact mark1_red c d w
  · by_cases d : n ≤ b.snd
    · exact mark2_yellow hok n0 d n1 w
    · exact mark2_red d w
  · exact mark3_red w
end Go.Proofs.Ytnbjcahhmibmdaa
