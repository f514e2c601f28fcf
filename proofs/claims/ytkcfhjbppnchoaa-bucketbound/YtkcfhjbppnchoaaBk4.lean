/- bucket.Take. -/
import Derived.Test.YtkcfhjbppnchoaaBk3
namespace Go.Proofs.Ytkcfhjbppnchoaa
open Go.RowKit Go.Maps

def ShotAt (w : World) (q : Nat) (t n : Int) : Prop := w.heap[q]? = some (.cells #[.int .i64 t, .int .i64 n] 36 (0, 0))
theorem ShotAt.cells {w : World} {q : Nat} {t n : Int} (h : ShotAt w q t n) : w.cell? ⟨q, 0, none⟩ = some (.int .i64 t) ∧ w.cell? ⟨q, 1, none⟩ = some (.int .i64 n) := ⟨cell_of_row _ _ 0 _ _ _ h, cell_of_row _ _ 1 _ _ _ h⟩
theorem ShotAt.lt {w : World} {q : Nat} {t n : Int} (h : ShotAt w q t n) : q < w.heap.size := (Array.getElem?_eq_some_iff.1 h).1
theorem ShotAt.below {w w' : World} {q : Nat} {t n : Int} (h : ShotAt w q t n) (hb : Below w.heap.size w w') : ShotAt w' q t n := (hb.block q h.lt).trans h
/-- A bucket's box, a shot's, and a block for the result behind them. -/
structure Box3 (w W : World) (b : Bk) (t n : Int) : Prop where
  below : Below w.heap.size w W
  first : BkAt W w.heap.size b
  shot : ShotAt W (w.heap.size + 1) t n
  third : BkAt W (w.heap.size + 1 + 1) Bk.zero
def three (w : World) (b : Bk) (t n : Int) : World := ((w.alloc (.cells #[.int .i64 b.num, .int .i64 b.den, .int .i64 b.burst, .int .i64 b.lev, .int .i64 b.tm] 23)).alloc (.cells #[.int .i64 t, .int .i64 n] 36)).alloc (.cells #[.int .i64 0, .int .i64 0, .int .i64 0, .int .i64 0, .int .i64 0] 23)
theorem box3 (w : World) (b : Bk) (t n : Int) : Box3 w (three w b t n) b t n := by
  have b1 : Below w.heap.size w (w.alloc (.cells b.cells 23)) := (Below.refl _ _).alloc (Nat.le_refl _) _
  have b2 := b1.alloc b1.size (.cells #[.int .i64 t, .int .i64 n] 36)
  have b3 := b2.alloc b2.size (.cells Bk.zero.cells 23)
  refine ⟨b3, ?_, ?_, ?_⟩
  · unfold BkAt three
    rw [Below.heap_alloc _ _ _ (by simp; omega), Below.heap_alloc _ _ _ (by simp)]
    exact heap_alloc_new w _
  · unfold ShotAt three
    rw [Below.heap_alloc _ _ _ (by simp)]
    have : w.heap.size + 1 = (w.alloc (.cells #[.int .i64 b.num, .int .i64 b.den, .int .i64 b.burst, .int .i64 b.lev, .int .i64 b.tm] 23)).heap.size := by simp
    rw [this]
    exact heap_alloc_new _ _
  · unfold BkAt three
    have : w.heap.size + 1 + 1 = ((w.alloc (.cells #[.int .i64 b.num, .int .i64 b.den, .int .i64 b.burst, .int .i64 b.lev, .int .i64 b.tm] 23)).alloc (.cells #[.int .i64 t, .int .i64 n] 36)).heap.size := by simp
    rw [this]
    exact heap_alloc_new _ _
namespace Box3
variable {w W W' : World} {b : Bk} {t n : Int}
theorem later (h : Box3 w W b t n) (hb : Below W.heap.size W W') : Box3 w W' b t n := ⟨h.below.trans (hb.mono h.below.size), h.first.below hb, h.shot.below hb, h.third.below hb⟩
theorem stored (h : Box3 w W b t n) (c : Bk) : Box3 w (W.setRow w.heap.size c.cells) c t n :=
  ⟨below_setRow h.below (Nat.le_refl _) _, h.first.stored c, (setRow_other W w.heap.size (w.heap.size + 1) _ (by omega)).trans h.shot, (setRow_other W w.heap.size (w.heap.size + 1 + 1) _ (by omega)).trans h.third⟩
theorem lev (h : Box3 w W b t n) (x : Int) : Box3 w (W.setCell ⟨w.heap.size, 3, none⟩ (.int .i64 x)) { b with lev := x } t n :=
  ⟨h.below.setCell (Nat.le_refl _) _, h.first.lev x, (heap_setCell_other W _ _ _ (by simp)).trans h.shot, h.third.other _ _ (by simp; omega)⟩
theorem tm (h : Box3 w W b t n) (x : Int) : Box3 w (W.setCell ⟨w.heap.size, 4, none⟩ (.int .i64 x)) { b with tm := x } t n :=
  ⟨h.below.setCell (Nat.le_refl _) _, h.first.tm x, (heap_setCell_other W _ _ _ (by simp)).trans h.shot, h.third.other _ _ (by simp; omega)⟩
theorem ended (h : Box3 w W b t n) (c : Bk) : BkAt (W.setRow (w.heap.size + 1 + 1) c.cells) (w.heap.size + 1 + 1) c ∧ Below w.heap.size w (W.setRow (w.heap.size + 1 + 1) c.cells) :=
  ⟨h.third.stored c, below_setRow h.below (by omega) _⟩
theorem cells (h : Box3 w W b t n) : (W.cell? ⟨w.heap.size, 0, none⟩ = some (.int .i64 b.num) ∧ W.cell? ⟨w.heap.size, 1, none⟩ = some (.int .i64 b.den) ∧ W.cell? ⟨w.heap.size, 2, none⟩ = some (.int .i64 b.burst) ∧ W.cell? ⟨w.heap.size, 3, none⟩ = some (.int .i64 b.lev) ∧ W.cell? ⟨w.heap.size, 4, none⟩ = some (.int .i64 b.tm)) ∧
    (W.cell? ⟨w.heap.size + 1, 0, none⟩ = some (.int .i64 t) ∧ W.cell? ⟨w.heap.size + 1, 1, none⟩ = some (.int .i64 n)) ∧ W.frozen? ⟨w.heap.size, 3, none⟩ = false ∧ W.frozen? ⟨w.heap.size, 4, none⟩ = false :=
  ⟨h.first.cells, h.shot.cells, h.first.frozen 3, h.first.frozen 4⟩
end Box3

/-- A bucket, a word and an error are the answer; nothing old has turned. -/
def Taken (w : World) (r : Bk × Bool × Int) (e : Ending) (w' : World) : Prop := e = .returned (.tuple #[.agg r.1.cells, .bool r.2.1, .int .i64 r.2.2]) ∧ Below w.heap.size w w'
theorem taken_mk {w W : World} {r : Bk × Bool × Int} {b : Bk} {u : Bool} {c : Int} (h : r = (b, u, c)) (hb : Below w.heap.size w W) : Taken w r (.returned (.tuple #[.agg b.cells, .bool u, .int .i64 c])) W := by
  rw [h]
  exact ⟨rfl, hb⟩
theorem fill_cases (b : Bk) (t : Int) : (b.right = true ∧ btw t b.tm 1099511627776 = true ∧ b.fill t = (b.to t, 0)) ∨ (∃ c, b.fill t = (Bk.zero, c) ∧ (c = 1 ∨ c = 2) ∧ ∀ n, b.take t n = (Bk.zero, false, c)) := by
  unfold Bk.fill Bk.take
  cases hr : b.right with
  | false => exact .inr ⟨1, rfl, .inl rfl, fun n => rfl⟩
  | true =>
    cases hj : btw t b.tm 1099511627776 with
    | false => exact .inr ⟨2, rfl, .inr rfl, fun n => rfl⟩
    | true => exact .inl ⟨rfl, rfl, rfl⟩

set_option maxRecDepth 100000 in
set_option maxHeartbeats 8000000 in
theorem take_bad {b : Bk} {t n c : Int} (hf : b.fill t = (Bk.zero, c)) (hc : c = 1 ∨ c = 2) (ht : b.take t n = (Bk.zero, false, c)) (w : World) :
    Calls Try.prog 17 #[.agg b.cells, .agg #[.int .i64 t, .int .i64 n]] w (Taken w (b.take t n)) := by
  have HX := Lib.hid (box3 w b t n)
  have HF := Lib.hid (fun W => fill_any b t W)
  rw [hf] at HF
  have HZ : Hid (∀ W, Below w.heap.size w W → Taken w (b.take t n) (.returned (.tuple #[.agg Bk.zero.cells, .bool false, .int .i64 c])) W) := Lib.hid (fun W hW => taken_mk ht hW)
  have hc' : (c != 0) = true := by rcases hc with rfl | rfl <;> rfl
  clear hf hc ht
  generalize Taken w (b.take t n) = D at *
  obtain ⟨⟨c0, c1, c2, c3, c4⟩, ⟨s0, s1⟩, f3, f4⟩ := HX.out.cells
  unfold Bk.cells at HF ⊢
  go_enter Try.func17, Try.ntmps17
  go_upto_region 1 with fail
  change Code.wp _ _ _ _ (three w b t n)
  generalize three w b t n = m at *
  go_wp2_with fail
  refine (HF.out _).mono ?_
  rintro e w1 ⟨rfl, hb⟩
  have HX1 := Lib.hid (HX.out.later hb)
  have HX2 := Lib.hid (HX1.out.stored Bk.zero)
  clear HF hb HX c0 c1 c2 c3 c4 s0 s1 f3 f4
  go_wp2_with (first | (refine wpList_store_bk rfl (.tmp 2) (.tmp 14) rfl w.heap.size Bk.zero b rfl rfl HX1.out.first ?_) | (refine wpList_store_bk rfl (.tmp 4) (.tmp 18) rfl (w.heap.size + 1 + 1) Bk.zero Bk.zero rfl rfl HX2.out.third ?_))
  exact bodyPost_ret (results_bk3 4 5 6 rfl _ _ rfl (HX2.out.ended Bk.zero).1) rfl (HZ.out _ (HX2.out.ended Bk.zero).2)

set_option maxRecDepth 100000 in
set_option maxHeartbeats 8000000 in
theorem take_good {b : Bk} {t n : Int} (hr : b.right = true) (hj : btw t b.tm 1099511627776 = true) (hf : b.fill t = (b.to t, 0)) (w : World) :
    Calls Try.prog 17 #[.agg b.cells, .agg #[.int .i64 t, .int .i64 n]] w (Taken w (b.take t n)) := by
  have HX := Lib.hid (box3 w b t n)
  have HF := Lib.hid (fun W => fill_any b t W)
  rw [hf] at HF
  have HS := Lib.hid (fun W => wrongSize_eq n W)
  have hok := Bk.right_iff.1 hr
  obtain ⟨t0, t1⟩ := btw_true.1 hj
  have hle := hok.level t0 t1
  have hmo := hok.most
  obtain ⟨⟨c0, c1, c2, c3, c4⟩, ⟨s0, s1⟩, f3, f4⟩ := HX.out.cells
  cases hn : btw n 0 1048576 with
  | false =>
    rw [hn] at HS
    have HZ : Hid (∀ W, Below w.heap.size w W → Taken w (b.take t n) (.returned (.tuple #[.agg Bk.zero.cells, .bool false, .int .i64 2])) W) := Lib.hid (fun W hW => taken_mk (by unfold Bk.take; rw [hr, hj, hn]; rfl) hW)
    clear hr hj hf hok t0 t1 hle hmo hn
    generalize Taken w (b.take t n) = D at *
    generalize b.to t = bt at *
    unfold Bk.cells at HF ⊢
    go_enter Try.func17, Try.ntmps17
    go_upto_region 1 with fail
    change Code.wp _ _ _ _ (three w b t n)
    generalize three w b t n = m at *
    go_wp2_with fail
    refine (HF.out _).mono ?_
    rintro e w1 ⟨rfl, hb⟩
    have HX1 := Lib.hid (HX.out.later hb)
    have HX2 := Lib.hid (HX1.out.stored bt)
    clear HF hb HX c0 c1 c2 c3 c4 s0 s1 f3 f4
    go_upto_region 2 with (refine wpList_store_bk rfl (.tmp 2) (.tmp 14) rfl w.heap.size bt b rfl rfl HX1.out.first ?_)
    clear HX1
    generalize w1.setRow w.heap.size bt.cells = w2 at *
    obtain ⟨⟨c0, c1, c2, c3, c4⟩, ⟨s0, s1⟩, f3, f4⟩ := HX2.out.cells
    go_wp2_with (first | (go_at_call 22; (with_reducible refine (HS.out _).mono ?_); rintro e w3 ⟨rfl, rfl⟩) | (refine wpList_store_bk rfl (.tmp 4) (.tmp 23) rfl (w.heap.size + 1 + 1) Bk.zero Bk.zero rfl rfl HX2.out.third ?_))
    exact bodyPost_ret (results_bk3 4 5 6 rfl _ _ rfl (HX2.out.ended Bk.zero).1) rfl (HZ.out _ (HX2.out.ended Bk.zero).2)
  | true =>
    rw [hn] at HS
    obtain ⟨n0, n1⟩ := btw_true.1 hn
    have hne := hok.needs n0 n1
    obtain ⟨N, e1, hN⟩ : ∃ N, wrap64 (n * b.den) = N ∧ n * b.den = N := ⟨_, w64 (by omega) (by omega), rfl⟩
    have HT : Hid (b.take t n = ((b.shoot t n).1, (b.shoot t n).2, 0)) := Lib.hid (by unfold Bk.take; rw [hr, hj, hn]; rfl)
    have HL : Hid ((b.to t).lev = b.level t ∧ (b.to t).den = b.den) := Lib.hid ⟨rfl, rfl⟩
    by_cases hlt : n * b.den ≤ b.level t
    · have HZ : Hid (∀ W, Below w.heap.size w W → Taken w (b.take t n) (.returned (.tuple #[.agg (Bk.mk (b.to t).num (b.to t).den (b.to t).burst ((b.to t).lev - N) (b.to t).tm).cells, .bool true, .int .i64 0])) W) := Lib.hid (fun W hW => taken_mk (by
        rw [HT.out]
        unfold Bk.shoot
        rw [if_pos hlt, ← hN]
        rfl) hW)
      have e2 : wrap64 ((b.to t).lev - N) = (b.to t).lev - N := w64 (by rw [HL.out.1]; omega) (by rw [HL.out.1]; omega)
      obtain ⟨R, hR⟩ : ∃ R, (b.to t).lev - N = R := ⟨_, rfl⟩
      rw [hR] at e2 HZ
      have hcmp : ¬ (b.to t).lev < N := by rw [HL.out.1]; omega
      have e1' : wrap64 (n * (b.to t).den) = N := by rw [HL.out.2]; exact e1
      have e2' : wrap64 ((b.to t).lev - N) = R := by rw [hR]; exact e2
      clear hr hj hf hok t0 t1 hle hmo hn n0 n1 hne HT HL hlt e1 e2 hN hR
      generalize Taken w (b.take t n) = D at *
      generalize b.to t = bt at *
      unfold Bk.cells at HF ⊢
      go_enter Try.func17, Try.ntmps17
      go_upto_region 1 with fail
      change Code.wp _ _ _ _ (three w b t n)
      generalize three w b t n = m at *
      go_wp2_with fail
      refine (HF.out _).mono ?_
      rintro e w1 ⟨rfl, hb⟩
      have HX1 := Lib.hid (HX.out.later hb)
      have HX2 := Lib.hid (HX1.out.stored bt)
      clear HF hb HX c0 c1 c2 c3 c4 s0 s1 f3 f4
      go_upto_region 2 with (refine wpList_store_bk rfl (.tmp 2) (.tmp 14) rfl w.heap.size bt b rfl rfl HX1.out.first ?_)
      clear HX1
      generalize w1.setRow w.heap.size bt.cells = w2 at *
      have HX3 := Lib.hid (HX2.out.lev R)
      obtain ⟨⟨c0, c1, c2, c3, c4⟩, ⟨s0, s1⟩, f3, f4⟩ := HX2.out.cells
      have hlt := HX2.out.first.lt
      go_upto_region 10 with (first | (go_at_call 22; (with_reducible refine (HS.out _).mono ?_); rintro e w3 ⟨rfl, rfl⟩))
      clear HX2 hlt c0 c1 c2 c3 c4 s0 s1 f3 f4
      generalize w2.setCell ⟨w.heap.size, 3, none⟩ (.int .i64 R) = w3 at *
      go_wp2_with (first | (refine wpList_load_bk rfl (.tmp 2) rfl w.heap.size _ rfl HX3.out.first ?_) | (refine wpList_store_bk rfl (.tmp 4) (.tmp 39) rfl (w.heap.size + 1 + 1) _ Bk.zero rfl rfl HX3.out.third ?_))
      exact bodyPost_ret (results_bk3 4 5 6 rfl _ _ rfl (HX3.out.ended _).1) rfl (HZ.out _ (HX3.out.ended _).2)
    · have HZ : Hid (∀ W, Below w.heap.size w W → Taken w (b.take t n) (.returned (.tuple #[.agg (b.to t).cells, .bool false, .int .i64 0])) W) := Lib.hid (fun W hW => taken_mk (by
        rw [HT.out]
        unfold Bk.shoot
        rw [if_neg hlt]) hW)
      have hcmp : (b.to t).lev < N := by rw [HL.out.1]; omega
      have e1' : wrap64 (n * (b.to t).den) = N := by rw [HL.out.2]; exact e1
      clear hr hj hf hok t0 t1 hle hmo hn n0 n1 hne HT HL hlt e1 hN
      generalize Taken w (b.take t n) = D at *
      generalize b.to t = bt at *
      unfold Bk.cells at HF ⊢
      go_enter Try.func17, Try.ntmps17
      go_upto_region 1 with fail
      change Code.wp _ _ _ _ (three w b t n)
      generalize three w b t n = m at *
      go_wp2_with fail
      refine (HF.out _).mono ?_
      rintro e w1 ⟨rfl, hb⟩
      have HX1 := Lib.hid (HX.out.later hb)
      have HX2 := Lib.hid (HX1.out.stored bt)
      clear HF hb HX c0 c1 c2 c3 c4 s0 s1 f3 f4
      go_upto_region 2 with (refine wpList_store_bk rfl (.tmp 2) (.tmp 14) rfl w.heap.size bt b rfl rfl HX1.out.first ?_)
      clear HX1
      generalize w1.setRow w.heap.size bt.cells = w2 at *
      obtain ⟨⟨c0, c1, c2, c3, c4⟩, ⟨s0, s1⟩, f3, f4⟩ := HX2.out.cells
      go_wp2_with (first | (go_at_call 22; (with_reducible refine (HS.out _).mono ?_); rintro e w3 ⟨rfl, rfl⟩) | (refine wpList_load_bk rfl (.tmp 2) rfl w.heap.size bt rfl HX2.out.first ?_) | (refine wpList_store_bk rfl (.tmp 4) (.tmp 33) rfl (w.heap.size + 1 + 1) bt Bk.zero rfl rfl HX2.out.third ?_))
      exact bodyPost_ret (results_bk3 4 5 6 rfl _ _ rfl (HX2.out.ended bt).1) rfl (HZ.out _ (HX2.out.ended bt).2)
theorem take_any (b : Bk) (t n : Int) (w : World) :
    Calls Try.prog 17 #[.agg b.cells, .agg #[.int .i64 t, .int .i64 n]] w (Taken w (b.take t n)) := by
  rcases fill_cases b t with ⟨h1, h2, h3⟩ | ⟨c, h1, h2, h3⟩
  · exact take_good h1 h2 h3 w
  · exact take_bad h1 h2 (h3 n) w
end Go.Proofs.Ytkcfhjbppnchoaa
