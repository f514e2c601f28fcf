/- meter.Colour. -/
import Derived.Test.YtnbjcahhmibmdaaMt3
namespace Go.Proofs.Ytnbjcahhmibmdaa
open Go.RowKit Go.Maps

def ShotAt (w : World) (q : Nat) (t n : Int) : Prop := w.heap[q]? = some (.cells #[.int .i64 t, .int .i64 n] 25 (0, 0))
theorem ShotAt.cells {w : World} {q : Nat} {t n : Int} (h : ShotAt w q t n) : w.cell? ⟨q, 0, none⟩ = some (.int .i64 t) ∧ w.cell? ⟨q, 1, none⟩ = some (.int .i64 n) := ⟨cell_of_row _ _ 0 _ _ _ h, cell_of_row _ _ 1 _ _ _ h⟩
theorem ShotAt.lt {w : World} {q : Nat} {t n : Int} (h : ShotAt w q t n) : q < w.heap.size := (Array.getElem?_eq_some_iff.1 h).1
theorem ShotAt.below {w w' : World} {q : Nat} {t n : Int} (h : ShotAt w q t n) (hb : Below w.heap.size w w') : ShotAt w' q t n := (hb.block q h.lt).trans h
/-- A meter's box, a shot's, and a block for the result behind them. -/
structure Box3 (w W : World) (b : Mt) (t n : Int) : Prop where
  below : Below w.heap.size w W
  first : MtAt W w.heap.size b
  shot : ShotAt W (w.heap.size + 1) t n
  third : MtAt W (w.heap.size + 1 + 1) Mt.zero
def three (w : World) (b : Mt) (t n : Int) : World := ((w.alloc (.cells #[.int .i64 b.rate, .int .i64 b.burst, .int .i64 b.exc, .int .i64 b.fst, .int .i64 b.snd, .int .i64 b.tm] 23)).alloc (.cells #[.int .i64 t, .int .i64 n] 25)).alloc (.cells #[.int .i64 0, .int .i64 0, .int .i64 0, .int .i64 0, .int .i64 0, .int .i64 0] 23)
theorem box3 (w : World) (b : Mt) (t n : Int) : Box3 w (three w b t n) b t n := by
  have b1 : Below w.heap.size w (w.alloc (.cells b.cells 23)) := (Below.refl _ _).alloc (Nat.le_refl _) _
  have b2 := b1.alloc b1.size (.cells #[.int .i64 t, .int .i64 n] 25)
  have b3 := b2.alloc b2.size (.cells Mt.zero.cells 23)
  refine ⟨b3, ?_, ?_, ?_⟩
  · unfold MtAt three
    rw [Below.heap_alloc _ _ _ (by simp; omega), Below.heap_alloc _ _ _ (by simp)]
    exact heap_alloc_new w _
  · unfold ShotAt three
    rw [Below.heap_alloc _ _ _ (by simp)]
    have : w.heap.size + 1 = (w.alloc (.cells #[.int .i64 b.rate, .int .i64 b.burst, .int .i64 b.exc, .int .i64 b.fst, .int .i64 b.snd, .int .i64 b.tm] 23)).heap.size := by simp
    rw [this]
    exact heap_alloc_new _ _
  · unfold MtAt three
    have : w.heap.size + 1 + 1 = ((w.alloc (.cells #[.int .i64 b.rate, .int .i64 b.burst, .int .i64 b.exc, .int .i64 b.fst, .int .i64 b.snd, .int .i64 b.tm] 23)).alloc (.cells #[.int .i64 t, .int .i64 n] 25)).heap.size := by simp
    rw [this]
    exact heap_alloc_new _ _
namespace Box3
variable {w W W' : World} {b : Mt} {t n : Int}
theorem later (h : Box3 w W b t n) (hb : Below W.heap.size W W') : Box3 w W' b t n := ⟨h.below.trans (hb.mono h.below.size), h.first.below hb, h.shot.below hb, h.third.below hb⟩
theorem stored (h : Box3 w W b t n) (c : Mt) : Box3 w (W.setRow w.heap.size c.cells) c t n :=
  ⟨below_setRow h.below (Nat.le_refl _) _, h.first.stored c, (setRow_other W w.heap.size (w.heap.size + 1) _ (by omega)).trans h.shot, (setRow_other W w.heap.size (w.heap.size + 1 + 1) _ (by omega)).trans h.third⟩
theorem ended (h : Box3 w W b t n) (c : Mt) : MtAt (W.setRow (w.heap.size + 1 + 1) c.cells) (w.heap.size + 1 + 1) c ∧ Below w.heap.size w (W.setRow (w.heap.size + 1 + 1) c.cells) :=
  ⟨h.third.stored c, below_setRow h.below (by omega) _⟩
theorem cells (h : Box3 w W b t n) : (W.cell? ⟨w.heap.size, 0, none⟩ = some (.int .i64 b.rate) ∧ W.cell? ⟨w.heap.size, 1, none⟩ = some (.int .i64 b.burst) ∧ W.cell? ⟨w.heap.size, 2, none⟩ = some (.int .i64 b.exc) ∧ W.cell? ⟨w.heap.size, 3, none⟩ = some (.int .i64 b.fst) ∧ W.cell? ⟨w.heap.size, 4, none⟩ = some (.int .i64 b.snd) ∧ W.cell? ⟨w.heap.size, 5, none⟩ = some (.int .i64 b.tm)) ∧
    (W.cell? ⟨w.heap.size + 1, 0, none⟩ = some (.int .i64 t) ∧ W.cell? ⟨w.heap.size + 1, 1, none⟩ = some (.int .i64 n)) :=
  ⟨h.first.cells, h.shot.cells⟩
end Box3
/-- A meter, a colour and an error are the answer; nothing old has turned. -/
def Told (w : World) (r : Mt × Int × Int) (e : Ending) (w' : World) : Prop := e = .returned (.tuple #[.agg r.1.cells, .int .i64 r.2.1, .int .i64 r.2.2]) ∧ Below w.heap.size w w'
theorem told_mk {w W : World} {r : Mt × Int × Int} {b : Mt} {u c : Int} (h : r = (b, u, c)) (hb : Below w.heap.size w W) : Told w r (.returned (.tuple #[.agg b.cells, .int .i64 u, .int .i64 c])) W := by
  rw [h]
  exact ⟨rfl, hb⟩

set_option maxRecDepth 100000 in
set_option maxHeartbeats 8000000 in
theorem colour_form {b : Mt} {t n had : Int} (hr : b.right = false) (w : World) :
    Calls Try.prog 9 #[.agg b.cells, .agg #[.int .i64 t, .int .i64 n], .int .i64 had] w (Told w (b.colour t n had)) := by
  have HX := Lib.hid (box3 w b t n)
  have HR := Lib.hid (fun W => right_any b W)
  rw [hr] at HR
  have HZ : Hid (∀ W, Below w.heap.size w W → Told w (b.colour t n had) (.returned (.tuple #[.agg Mt.zero.cells, .int .i64 0, .int .i64 1])) W) := Lib.hid (fun W hW => told_mk (Mt.colour_form hr) hW)
  clear hr
  obtain ⟨⟨c0, c1, c2, c3, c4, c5⟩, s0, s1⟩ := HX.out.cells
  generalize Told w (b.colour t n had) = D at *
  unfold Mt.cells at HR ⊢
  go_enter Try.func9, Try.ntmps9
  go_upto_region 1 with fail
  change Code.wp _ _ _ _ (three w b t n)
  generalize three w b t n = m at *
  go_wp2_with fail
  refine (HR.out _).mono ?_
  rintro e w1 ⟨rfl, hb⟩
  have HX1 := Lib.hid (HX.out.later hb)
  clear HR hb HX c0 c1 c2 c3 c4 c5 s0 s1
  go_wp2_with (refine wpList_store_mt rfl (.tmp 6) (.tmp 13) rfl (w.heap.size + 1 + 1) Mt.zero Mt.zero rfl rfl HX1.out.third ?_)
  exact bodyPost_ret (results_mt3 6 7 8 rfl _ _ rfl (HX1.out.ended Mt.zero).1) rfl (HZ.out _ (HX1.out.ended Mt.zero).2)

set_option maxRecDepth 100000 in
set_option maxHeartbeats 8000000 in
theorem colour_kind {b : Mt} {t n had : Int} (hr : b.right = true) (hh : btw had 1 3 = false) (w : World) :
    Calls Try.prog 9 #[.agg b.cells, .agg #[.int .i64 t, .int .i64 n], .int .i64 had] w (Told w (b.colour t n had)) := by
  have HX := Lib.hid (box3 w b t n)
  have HR := Lib.hid (fun W => right_any b W)
  rw [hr] at HR
  have H0 := Lib.hid (fun W => between_eq had 1 3 W)
  rw [hh] at H0
  have HZ : Hid (∀ W, Below w.heap.size w W → Told w (b.colour t n had) (.returned (.tuple #[.agg Mt.zero.cells, .int .i64 0, .int .i64 5])) W) := Lib.hid (fun W hW => told_mk (Mt.colour_kind hr hh) hW)
  clear hr hh
  obtain ⟨⟨c0, c1, c2, c3, c4, c5⟩, s0, s1⟩ := HX.out.cells
  generalize Told w (b.colour t n had) = D at *
  unfold Mt.cells at HR ⊢
  go_enter Try.func9, Try.ntmps9
  go_upto_region 1 with fail
  change Code.wp _ _ _ _ (three w b t n)
  generalize three w b t n = m at *
  go_wp2_with fail
  refine (HR.out _).mono ?_
  rintro e w1 ⟨rfl, hb⟩
  have HX1 := Lib.hid (HX.out.later hb)
  clear HR hb HX c0 c1 c2 c3 c4 c5 s0 s1
  go_wp2_with (first | (go_at_call 16; (with_reducible refine (H0.out _).mono ?_); rintro e w3 ⟨rfl, rfl⟩) | (refine wpList_store_mt rfl (.tmp 6) (.tmp 17) rfl (w.heap.size + 1 + 1) Mt.zero Mt.zero rfl rfl HX1.out.third ?_))
  exact bodyPost_ret (results_mt3 6 7 8 rfl _ _ rfl (HX1.out.ended Mt.zero).1) rfl (HZ.out _ (HX1.out.ended Mt.zero).2)

set_option maxRecDepth 100000 in
set_option maxHeartbeats 8000000 in
theorem colour_late {b : Mt} {t n had : Int} (hr : b.right = true) (hh : btw had 1 3 = true) (ht : btw t b.tm 1099511627776 = false) (w : World) :
    Calls Try.prog 9 #[.agg b.cells, .agg #[.int .i64 t, .int .i64 n], .int .i64 had] w (Told w (b.colour t n had)) := by
  have HX := Lib.hid (box3 w b t n)
  have HR := Lib.hid (fun W => right_any b W)
  rw [hr] at HR
  have H0 := Lib.hid (fun W => between_eq had 1 3 W)
  have H1 := Lib.hid (fun W => between_eq t b.tm 1099511627776 W)
  have H2 := Lib.hid (fun W => between_eq n 0 1048576 W)
  rw [hh] at H0
  rw [ht] at H1
  have HZ : Hid (∀ W, Below w.heap.size w W → Told w (b.colour t n had) (.returned (.tuple #[.agg Mt.zero.cells, .int .i64 0, .int .i64 2])) W) := Lib.hid (fun W hW => told_mk (Mt.colour_range hr hh (.inl ht)) hW)
  clear hr hh ht H2
  obtain ⟨⟨c0, c1, c2, c3, c4, c5⟩, s0, s1⟩ := HX.out.cells
  generalize Told w (b.colour t n had) = D at *
  unfold Mt.cells at HR ⊢
  go_enter Try.func9, Try.ntmps9
  go_upto_region 1 with fail
  change Code.wp _ _ _ _ (three w b t n)
  generalize three w b t n = m at *
  go_wp2_with fail
  refine (HR.out _).mono ?_
  rintro e w1 ⟨rfl, hb⟩
  have HX1 := Lib.hid (HX.out.later hb)
  clear HR hb HX c0 c1 c2 c3 c4 c5 s0 s1
  obtain ⟨⟨c0, c1, c2, c3, c4, c5⟩, s0, s1⟩ := HX1.out.cells
  go_wp2_with (first | (go_at_call 16; (with_reducible refine (H0.out _).mono ?_); rintro e w3 ⟨rfl, rfl⟩) | (go_at_call 16; (with_reducible refine (H1.out _).mono ?_); rintro e w3 ⟨rfl, rfl⟩) | (refine wpList_store_mt rfl (.tmp 6) (.tmp 30) rfl (w.heap.size + 1 + 1) Mt.zero Mt.zero rfl rfl HX1.out.third ?_))
  exact bodyPost_ret (results_mt3 6 7 8 rfl _ _ rfl (HX1.out.ended Mt.zero).1) rfl (HZ.out _ (HX1.out.ended Mt.zero).2)

set_option maxRecDepth 100000 in
set_option maxHeartbeats 8000000 in
theorem colour_size {b : Mt} {t n had : Int} (hr : b.right = true) (hh : btw had 1 3 = true) (ht : btw t b.tm 1099511627776 = true) (hn : btw n 0 1048576 = false) (w : World) :
    Calls Try.prog 9 #[.agg b.cells, .agg #[.int .i64 t, .int .i64 n], .int .i64 had] w (Told w (b.colour t n had)) := by
  have HX := Lib.hid (box3 w b t n)
  have HR := Lib.hid (fun W => right_any b W)
  rw [hr] at HR
  have H0 := Lib.hid (fun W => between_eq had 1 3 W)
  have H1 := Lib.hid (fun W => between_eq t b.tm 1099511627776 W)
  have H2 := Lib.hid (fun W => between_eq n 0 1048576 W)
  rw [hh] at H0
  rw [ht] at H1
  rw [hn] at H2
  have HZ : Hid (∀ W, Below w.heap.size w W → Told w (b.colour t n had) (.returned (.tuple #[.agg Mt.zero.cells, .int .i64 0, .int .i64 2])) W) := Lib.hid (fun W hW => told_mk (Mt.colour_range hr hh (.inr hn)) hW)
  clear hr hh ht hn
  obtain ⟨⟨c0, c1, c2, c3, c4, c5⟩, s0, s1⟩ := HX.out.cells
  generalize Told w (b.colour t n had) = D at *
  unfold Mt.cells at HR ⊢
  go_enter Try.func9, Try.ntmps9
  go_upto_region 1 with fail
  change Code.wp _ _ _ _ (three w b t n)
  generalize three w b t n = m at *
  go_wp2_with fail
  refine (HR.out _).mono ?_
  rintro e w1 ⟨rfl, hb⟩
  have HX1 := Lib.hid (HX.out.later hb)
  clear HR hb HX c0 c1 c2 c3 c4 c5 s0 s1
  obtain ⟨⟨c0, c1, c2, c3, c4, c5⟩, s0, s1⟩ := HX1.out.cells
  go_wp2_with (first | (go_at_call 16; (with_reducible refine (H0.out _).mono ?_); rintro e w3 ⟨rfl, rfl⟩) | (go_at_call 16; (with_reducible refine (H1.out _).mono ?_); rintro e w3 ⟨rfl, rfl⟩) | (go_at_call 16; (with_reducible refine (H2.out _).mono ?_); rintro e w3 ⟨rfl, rfl⟩) | (refine wpList_store_mt rfl (.tmp 6) (.tmp 30) rfl (w.heap.size + 1 + 1) Mt.zero Mt.zero rfl rfl HX1.out.third ?_))
  exact bodyPost_ret (results_mt3 6 7 8 rfl _ _ rfl (HX1.out.ended Mt.zero).1) rfl (HZ.out _ (HX1.out.ended Mt.zero).2)

set_option maxRecDepth 100000 in
set_option maxHeartbeats 8000000 in
theorem colour_good {b : Mt} {t n had : Int} (hr : b.right = true) (hh : btw had 1 3 = true) (ht : btw t b.tm 1099511627776 = true) (hn : btw n 0 1048576 = true) (w : World) :
    Calls Try.prog 9 #[.agg b.cells, .agg #[.int .i64 t, .int .i64 n], .int .i64 had] w (Told w (b.colour t n had)) := by
  have HX := Lib.hid (box3 w b t n)
  have HR := Lib.hid (fun W => right_any b W)
  rw [hr] at HR
  have H0 := Lib.hid (fun W => between_eq had 1 3 W)
  have H1 := Lib.hid (fun W => between_eq t b.tm 1099511627776 W)
  have H2 := Lib.hid (fun W => between_eq n 0 1048576 W)
  rw [hh] at H0
  rw [ht] at H1
  rw [hn] at H2
  have hok := Mt.right_iff.1 hr
  obtain ⟨h1, h3⟩ := btw_true.1 hh
  obtain ⟨t0, t1⟩ := btw_true.1 ht
  obtain ⟨n0, n1⟩ := btw_true.1 hn
  have HF := Lib.hid (fun W => filled_any hok t0 t1 W)
  have HK := Lib.hid (fun W => mark_any (hok.fill t0 t1) n0 n1 h1 h3 W)
  have HZ : Hid (∀ W, Below w.heap.size w W → Told w (b.colour t n had) (.returned (.tuple #[.agg ((b.fill t).mark n had).1.cells, .int .i64 ((b.fill t).mark n had).2, .int .i64 0])) W) := Lib.hid (fun W hW => told_mk (Mt.colour_fine hr hh ht hn) hW)
  clear hr hh ht hn hok h1 h3 t0 t1 n0 n1
  generalize (b.fill t).mark n had = X at *
  obtain ⟨mx, cx⟩ := X
  generalize b.fill t = bt at *
  unfold Marked at HK
  dsimp only at HK HZ
  obtain ⟨⟨c0, c1, c2, c3, c4, c5⟩, s0, s1⟩ := HX.out.cells
  generalize Told w (b.colour t n had) = D at *
  unfold Mt.cells at HR HF HK ⊢
  go_enter Try.func9, Try.ntmps9
  go_upto_region 1 with fail
  change Code.wp _ _ _ _ (three w b t n)
  generalize three w b t n = m at *
  go_wp2_with fail
  refine (HR.out _).mono ?_
  rintro e w1 ⟨rfl, hb⟩
  have HX1 := Lib.hid (HX.out.later hb)
  clear HR hb HX c0 c1 c2 c3 c4 c5 s0 s1
  obtain ⟨⟨c0, c1, c2, c3, c4, c5⟩, s0, s1⟩ := HX1.out.cells
  go_upto_region 7 with (first | (go_at_call 16; (with_reducible refine (H0.out _).mono ?_); rintro e w3 ⟨rfl, rfl⟩) | (go_at_call 16; (with_reducible refine (H1.out _).mono ?_); rintro e w3 ⟨rfl, rfl⟩) | (go_at_call 16; (with_reducible refine (H2.out _).mono ?_); rintro e w3 ⟨rfl, rfl⟩))
  have HS : Hid (∀ W, Below w1.heap.size w1 W → (fun W : World => W.cell? ⟨w.heap.size + 1, 0, none⟩ = some (.int .i64 t) ∧ W.cell? ⟨w.heap.size + 1, 1, none⟩ = some (.int .i64 n)) W) := Lib.hid (fun W hW => (HX1.out.later hW).cells.2)
  clear c0 c1 c2 c3 c4 c5 s0 s1 H0 H1 H2
  refine wp_region_held_drew (S := (fun W : World => W.cell? ⟨w.heap.size + 1, 0, none⟩ = some (.int .i64 t) ∧ W.cell? ⟨w.heap.size + 1, 1, none⟩ = some (.int .i64 n))) (by kernel_rfl) (HS.out _ (Below.refl _ _).drew) (fun hHeld => ?_)
  obtain ⟨w10, hw10⟩ : ∃ W0, W0 = w1.drew := ⟨_, rfl⟩
  have HB10 : Hid (Below w1.heap.size w1 w10) := Lib.hid (by rw [hw10]; exact (Below.refl _ _).drew)
  rw [← hw10] at hHeld ⊢
  clear hw10
  refine wpAnyH_take (i := 1) (v := ?_) (by simp only [List.getElem?_toArray, List.getElem?_cons_succ, List.getElem?_cons_zero] <;> rfl) (by kernel_rfl) (by kernel_rfl) (by kernel_rfl) (by exact fun _ _ _ h => h) (Or.inl ⟨by rfl, ?_⟩) hHeld ?_
  rotate_left
  · intro w hSw; (try dsimp only at hSw); go_simp; (try with_reducible rfl)
  (try simp only [Act.put, List.setIfInBounds_toArray, List.set_cons_zero, List.set_cons_succ])
  refine wpAnyH_take (i := 2) (v := ?_) (by simp only [List.getElem?_toArray, List.getElem?_cons_succ, List.getElem?_cons_zero] <;> rfl) (by kernel_rfl) (by kernel_rfl) (by kernel_rfl) (by exact fun _ _ _ h => h) (Or.inl ⟨by rfl, ?_⟩) hHeld ?_
  rotate_left
  · intro w hSw; (try dsimp only at hSw); go_simp; (try with_reducible rfl)
  (try simp only [Act.put, List.setIfInBounds_toArray, List.set_cons_zero, List.set_cons_succ])
  refine wpAnyH_take (i := 4) (v := ?_) (by simp only [List.getElem?_toArray, List.getElem?_cons_succ, List.getElem?_cons_zero] <;> rfl) (by kernel_rfl) (by kernel_rfl) (by kernel_rfl) (by exact fun _ _ _ h => h) (Or.inl ⟨by rfl, ?_⟩) hHeld ?_
  rotate_left
  · intro w hSw; (try dsimp only at hSw); go_simp; (try with_reducible rfl)
  (try simp only [Act.put, List.setIfInBounds_toArray, List.set_cons_zero, List.set_cons_succ])
  refine wpAnyH_take (i := 5) (v := ?_) (by simp only [List.getElem?_toArray, List.getElem?_cons_succ, List.getElem?_cons_zero] <;> rfl) (by kernel_rfl) (by kernel_rfl) (by kernel_rfl) (by exact fun _ _ _ h => h) (Or.inl ⟨by rfl, ?_⟩) hHeld ?_
  rotate_left
  · intro w hSw; (try dsimp only at hSw); go_simp; (try with_reducible rfl)
  (try simp only [Act.put, List.setIfInBounds_toArray, List.set_cons_zero, List.set_cons_succ])
  refine wpAnyH_take (i := 6) (v := ?_) (by simp only [List.getElem?_toArray, List.getElem?_cons_succ, List.getElem?_cons_zero] <;> rfl) (by kernel_rfl) (by kernel_rfl) (by kernel_rfl) (by exact fun _ _ _ h => h) (Or.inl ⟨by rfl, ?_⟩) hHeld ?_
  rotate_left
  · intro w hSw; (try dsimp only at hSw); go_simp; (try with_reducible rfl)
  (try simp only [Act.put, List.setIfInBounds_toArray, List.set_cons_zero, List.set_cons_succ])
  refine wpAnyH_ready (rs := [0]) (by kernel_rfl) (by simp) ?_
  refine AllReadyH.cons (by simp only [List.getElem?_toArray, List.getElem?_cons_zero] <;> rfl) (fun K hK => ?_) AllReadyH.nil
  have HX2 := Lib.hid (HX1.out.later HB10.out)
  obtain ⟨⟨c0, c1, c2, c3, c4, c5⟩, s0, s1⟩ := HX2.out.cells
  go_simp
  refine hK.out _ _ ?_ (fun hHeld => ?_)
  · exact HS.out _ HB10.out
  clear hK K
  (try simp only [Act.put, List.setIfInBounds_toArray, List.set_cons_zero, List.set_cons_succ])
  clear c0 c1 c2 c3 c4 c5 s0 s1 HX2
  refine wpAnyH_ready (rs := [3]) (by kernel_rfl) (by simp) ?_
  refine AllReadyH.cons (by simp only [List.getElem?_toArray, List.getElem?_cons_succ, List.getElem?_cons_zero] <;> rfl) (fun K hK => ?_) AllReadyH.nil
  go_simp
  go_at_call 18
  refine (HF.out _).mono ?_
  rintro e w11 ⟨rfl, hb11⟩
  have HB11 := Lib.hid (HB10.out.trans (hb11.mono HB10.out.size))
  clear hb11
  go_wp2_with fail
  refine hK.out _ _ ?_ (fun hHeld => ?_)
  · exact HS.out _ HB11.out
  clear hK K
  (try simp only [Act.put, List.setIfInBounds_toArray, List.set_cons_zero, List.set_cons_succ])
  refine wpAnyH_ready (rs := [7]) (by kernel_rfl) (by simp) ?_
  refine AllReadyH.cons (by simp only [List.getElem?_toArray, List.getElem?_cons_succ, List.getElem?_cons_zero] <;> rfl) (fun K hK => ?_) AllReadyH.nil
  go_simp
  go_at_call 17
  refine (HK.out _).mono ?_
  rintro e w12 ⟨rfl, hb12⟩
  have HB12 := Lib.hid (HB11.out.trans (hb12.mono HB11.out.size))
  clear hb12
  go_wp2_with fail
  refine hK.out _ _ ?_ (fun hHeld => ?_)
  · exact HS.out _ HB12.out
  clear hK K
  (try simp only [Act.put, List.setIfInBounds_toArray, List.set_cons_zero, List.set_cons_succ])
  refine wpAnyH_take (i := 8) (v := ?_) (by simp only [List.getElem?_toArray, List.getElem?_cons_succ, List.getElem?_cons_zero] <;> rfl) (by kernel_rfl) (by kernel_rfl) (by kernel_rfl) (by exact fun _ _ _ h => h) (Or.inl ⟨by rfl, ?_⟩) hHeld ?_
  rotate_left
  · intro w hSw; (try dsimp only at hSw); go_simp; (try with_reducible rfl)
  (try simp only [Act.put, List.setIfInBounds_toArray, List.set_cons_zero, List.set_cons_succ])
  refine wpAnyH_take (i := 9) (v := ?_) (by simp only [List.getElem?_toArray, List.getElem?_cons_succ, List.getElem?_cons_zero] <;> rfl) (by kernel_rfl) (by kernel_rfl) (by kernel_rfl) (by exact fun _ _ _ h => h) (Or.inl ⟨by rfl, ?_⟩) hHeld ?_
  rotate_left
  · intro w hSw; (try dsimp only at hSw); go_simp; (try with_reducible rfl)
  (try simp only [Act.put, List.setIfInBounds_toArray, List.set_cons_zero, List.set_cons_succ])
  refine wpAnyH_take (i := 10) (v := ?_) (by simp only [List.getElem?_toArray, List.getElem?_cons_succ, List.getElem?_cons_zero] <;> rfl) (by kernel_rfl) (by kernel_rfl) (by kernel_rfl) (by exact fun _ _ _ h => h) (Or.inl ⟨by rfl, ?_⟩) hHeld ?_
  rotate_left
  · intro w hSw; (try dsimp only at hSw); go_simp; (try with_reducible rfl)
  (try simp only [Act.put, List.setIfInBounds_toArray, List.set_cons_zero, List.set_cons_succ])
  have HX2 := Lib.hid (HX1.out.later HB12.out)
  clear HX1 HB10 HB11
  refine wpAnyH_ready (rs := [11]) (by kernel_rfl) (by simp) ?_
  refine AllReadyH.cons (by simp only [List.getElem?_toArray, List.getElem?_cons_succ, List.getElem?_cons_zero] <;> rfl) (fun K hK => ?_) AllReadyH.nil
  rw [if_pos (by rfl)]
  refine wp_store_mt (.tmp 3) (.tmp 40) rfl w.heap.size mx b rfl rfl HX2.out.first ?_
  have HX3 := Lib.hid (HX2.out.stored mx)
  refine hK.out _ _ ?_ (fun hHeld => ?_)
  · exact HX3.out.shot.cells
  clear hK K HX2 HB12
  (try simp only [Act.put])
  generalize w12.setRow w.heap.size mx.cells = w13 at *
  refine wpAnyH_take (i := 12) (v := ?_) (by simp only [List.getElem?_toArray, List.getElem?_cons_succ, List.getElem?_cons_zero] <;> rfl) (by kernel_rfl) (by kernel_rfl) (by kernel_rfl) (by exact fun _ _ _ h => h) (Or.inl ⟨by rfl, ?_⟩) hHeld ?_
  rotate_left
  · intro w hSw; (try dsimp only at hSw); go_simp; (try with_reducible rfl)
  (try simp only [Act.put, List.setIfInBounds_toArray, List.set_cons_zero, List.set_cons_succ])
  refine wpAnyH_done (by kernel_rfl) ?_ _
  clear hHeld HS HF HK
  go_wp2_with (first | (refine wpList_load_mt rfl (.tmp 3) rfl w.heap.size mx rfl HX3.out.first ?_) | (refine wpList_store_mt rfl (.tmp 6) (.tmp 42) rfl (w.heap.size + 1 + 1) mx Mt.zero rfl rfl HX3.out.third ?_))
  exact bodyPost_ret (results_mt3 6 7 8 rfl _ _ rfl (HX3.out.ended mx).1) rfl (HZ.out _ (HX3.out.ended mx).2)

theorem colour_any (b : Mt) (t n had : Int) (w : World) :
    Calls Try.prog 9 #[.agg b.cells, .agg #[.int .i64 t, .int .i64 n], .int .i64 had] w (Told w (b.colour t n had)) := by
  cases hr : b.right with
  | false => exact colour_form hr w
  | true =>
    cases hh : btw had 1 3 with
    | false => exact colour_kind hr hh w
    | true =>
      cases ht : btw t b.tm 1099511627776 with
      | false => exact colour_late hr hh ht w
      | true =>
        cases hn : btw n 0 1048576 with
        | false => exact colour_size hr hh ht hn w
        | true => exact colour_good hr hh ht hn w
end Go.Proofs.Ytnbjcahhmibmdaa
