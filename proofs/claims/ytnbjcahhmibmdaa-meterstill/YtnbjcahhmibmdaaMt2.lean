/- meter.filled. -/
import Derived.Test.YtnbjcahhmibmdaaMt1
namespace Go.Proofs.Ytnbjcahhmibmdaa
open Go.RowKit Go.Maps

/-- A meter's box, and a block for the result behind it. -/
structure BoxM (w m : World) (b : Mt) : Prop where
  below : Below w.heap.size w m
  first : MtAt m w.heap.size b
  second : MtAt m (w.heap.size + 1) Mt.zero
def boxM (w : World) (b : Mt) : World := (w.alloc (.cells #[.int .i64 b.rate, .int .i64 b.burst, .int .i64 b.exc, .int .i64 b.fst, .int .i64 b.snd, .int .i64 b.tm] 23)).alloc (.cells #[.int .i64 0, .int .i64 0, .int .i64 0, .int .i64 0, .int .i64 0, .int .i64 0] 23)
theorem boxM_at (w : World) (b : Mt) : BoxM w (boxM w b) b := by
  have b1 : Below w.heap.size w (w.alloc (.cells b.cells 23)) := (Below.refl _ _).alloc (Nat.le_refl _) _
  refine ⟨b1.alloc b1.size _, ?_, ?_⟩
  · unfold MtAt boxM
    rw [Below.heap_alloc _ _ _ (by simp)]
    exact heap_alloc_new w _
  · have : w.heap.size + 1 = (w.alloc (.cells #[.int .i64 b.rate, .int .i64 b.burst, .int .i64 b.exc, .int .i64 b.fst, .int .i64 b.snd, .int .i64 b.tm] 23)).heap.size := by simp
    unfold MtAt boxM
    rw [this]
    exact heap_alloc_new _ _

set_option maxRecDepth 100000 in
set_option maxHeartbeats 8000000 in
theorem filled_any {b : Mt} (hok : b.Ok) {t : Int} (t0 : b.tm ≤ t) (t1 : t ≤ 1099511627776) (w : World) :
    Calls Try.prog 18 #[.agg b.cells, .int .i64 t] w fun e w' => e = .returned (.agg (b.fill t).cells) ∧ Below w.heap.size w w' := by
  have HX := Lib.hid (boxM_at w b)
  have hco := hok.come t0 t1
  have hf0 := hok.f0; have hf1 := hok.f1; have hs0 := hok.s0; have hs1 := hok.s1; have hb1 := hok.b1; have he1 := hok.e1; have ht0 := hok.t0
  unfold Mt.come at hco
  obtain ⟨D, e1, hD⟩ : ∃ D, wrap64 (t - b.tm) = D ∧ t - b.tm = D := ⟨_, w64 (by omega) (by omega), rfl⟩
  rw [hD] at hco
  obtain ⟨A, e2, hA⟩ : ∃ A, wrap64 (b.rate * D) = A ∧ b.rate * D = A := ⟨_, w64 (by omega) (by omega), rfl⟩
  rw [hA] at hco
  obtain ⟨G1, e3, hG1⟩ : ∃ G, wrap64 (b.burst - b.fst) = G ∧ b.burst - b.fst = G := ⟨_, w64 (by omega) (by omega), rfl⟩
  obtain ⟨F1, hF1⟩ : ∃ F, min A G1 = F := ⟨_, rfl⟩
  have m1 : (if G1 < A then G1 else A) = F1 := by rw [← hF1]; split <;> omega
  obtain ⟨F, e4, hF⟩ : ∃ F, wrap64 (b.fst + F1) = F ∧ b.fst + F1 = F := ⟨_, w64 (by omega) (by omega), rfl⟩
  obtain ⟨O, e5, hO⟩ : ∃ F, wrap64 (A - F1) = F ∧ A - F1 = F := ⟨_, w64 (by omega) (by omega), rfl⟩
  obtain ⟨G2, e6, hG2⟩ : ∃ G, wrap64 (b.exc - b.snd) = G ∧ b.exc - b.snd = G := ⟨_, w64 (by omega) (by omega), rfl⟩
  obtain ⟨F2, hF2⟩ : ∃ F, min O G2 = F := ⟨_, rfl⟩
  have m2 : (if G2 < O then G2 else O) = F2 := by rw [← hF2]; split <;> omega
  obtain ⟨S, e7, hS⟩ : ∃ F, wrap64 (b.snd + F2) = F ∧ b.snd + F2 = F := ⟨_, w64 (by omega) (by omega), rfl⟩
  have HL : Hid (b.fill t = ⟨b.rate, b.burst, b.exc, F, S, t⟩) := Lib.hid (by
    unfold Mt.fill Mt.pour Mt.come
    rw [hD, hA, hG1, hG2, hF1, hO, hF2, hF, hS])
  clear hok hco hf0 hf1 hs0 hs1 hb1 he1 ht0 t0 t1 hD hA hG1 hF hO hG2 hS hF1 hF2
  have HZ : Hid (∀ W, Below w.heap.size w W → (fun e w' => e = Ending.returned (.agg (b.fill t).cells) ∧ Below w.heap.size w w') (.returned (.agg (Mt.mk b.rate b.burst b.exc F S t).cells)) W) := Lib.hid (fun W hW => ⟨by rw [HL.out], hW⟩)
  obtain ⟨c0, c1, c2, c3, c4, c5⟩ := HX.out.first.cells
  have f3 := HX.out.first.frozen 3
  have f4 := HX.out.first.frozen 4
  have f5 := HX.out.first.frozen 5
  unfold Mt.cells
  go_enter Try.func18, Try.ntmps18
  go_upto_region 1 with fail
  change Code.wp _ _ _ _ (boxM w b)
  generalize boxM w b = m at *
  have HB := Lib.hid (((HX.out.below.setCell (p := ⟨w.heap.size, 3, none⟩) (Nat.le_refl _) (.int .i64 F)).setCell (p := ⟨w.heap.size, 4, none⟩) (Nat.le_refl _) (.int .i64 S)).setCell (p := ⟨w.heap.size, 5, none⟩) (Nat.le_refl _) (.int .i64 t))
  have HR : Hid (MtAt (((m.setCell ⟨w.heap.size, 3, none⟩ (.int .i64 F)).setCell ⟨w.heap.size, 4, none⟩ (.int .i64 S)).setCell ⟨w.heap.size, 5, none⟩ (.int .i64 t)) (w.heap.size + 1) Mt.zero) := Lib.hid (((HX.out.second.other ⟨w.heap.size, 3, none⟩ _ (by simp)).other ⟨w.heap.size, 4, none⟩ _ (by simp)).other ⟨w.heap.size, 5, none⟩ _ (by simp))
  have HN : Hid (MtAt (((m.setCell ⟨w.heap.size, 3, none⟩ (.int .i64 F)).setCell ⟨w.heap.size, 4, none⟩ (.int .i64 S)).setCell ⟨w.heap.size, 5, none⟩ (.int .i64 t)) w.heap.size ⟨b.rate, b.burst, b.exc, F, S, t⟩) := Lib.hid (((HX.out.first.fst F).snd S).tm t)
  go_upto_region 6 with fail
  clear c0 c1 c2 c3 c4 c5 f3 f4 f5 e1 e2 e3 e4 e5 e6 e7 m1 m2 HX
  generalize ((m.setCell ⟨w.heap.size, 3, none⟩ (.int .i64 F)).setCell ⟨w.heap.size, 4, none⟩ (.int .i64 S)).setCell ⟨w.heap.size, 5, none⟩ (.int .i64 t) = m2 at *
  go_wp2_with (first | (refine wpList_load_mt rfl (.tmp 2) rfl w.heap.size ⟨b.rate, b.burst, b.exc, F, S, t⟩ rfl HN.out ?_) | (refine wpList_store_mt rfl (.tmp 4) (.tmp 41) rfl (w.heap.size + 1) ⟨b.rate, b.burst, b.exc, F, S, t⟩ Mt.zero rfl rfl HR.out ?_))
  exact bodyPost_ret (results_mt1 4 rfl _ _ rfl (HR.out.stored ⟨b.rate, b.burst, b.exc, F, S, t⟩)) rfl (HZ.out _ (below_setRow HB.out (Nat.le_succ w.heap.size) _))
end Go.Proofs.Ytnbjcahhmibmdaa
