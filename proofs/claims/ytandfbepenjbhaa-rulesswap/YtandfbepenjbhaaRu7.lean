/- The check 'alive' of package rules' laws returns true. -/
import Derived.Test.YtandfbepenjbhaaRu6
namespace Go.Proofs.Ytandfbepenjbhaa
open Go.RowKit Go.Maps

theorem lit_rus (w : World) (rs : List Ru) (hok : ∀ r ∈ rs, r.Ok) (hl : rs.length * 56 ≤ 281474976710656) : RusIn (w.alloc (.cells (ruCells rs).toArray 32)) (some ⟨w.heap.size, 0, none⟩) rs :=
  ⟨fun _ => ⟨w.heap.size, 0, rfl, by simp, row_rus (heap_alloc_new w _) (by
    rw [← flat_length ru_len rs]
    exact List.take_length)⟩, hok, hl⟩
def r1 : Ru := ⟨⟨0, 0, 0, 0⟩, ⟨10, 0, 0, 0⟩, 0, 8, 17, 53, 53, 3⟩
def r2 : Ru := ⟨⟨0, 0, 0, 0⟩, ⟨0, 0, 0, 0⟩, 0, 0, 0, 0, 65535, 1⟩
def r3 : Ru := ⟨⟨0, 0, 0, 0⟩, ⟨0, 0, 0, 0⟩, 0, 0, 6, 0, 80, 2⟩
def h1 : Hd := ⟨⟨0, 0, 0, 0⟩, ⟨10, 9, 0, 0⟩, 17, 0, 53, 0, 0⟩
def h2 : Hd := ⟨⟨0, 0, 0, 0⟩, ⟨0, 0, 0, 0⟩, 6, 0, 80, 0, 0⟩
theorem ok_ad {a b c d : Int} (h : 0 ≤ a ∧ a < 256 ∧ 0 ≤ b ∧ b < 256 ∧ 0 ≤ c ∧ c < 256 ∧ 0 ≤ d ∧ d < 256) : (Ad.mk a b c d).Ok := ⟨⟨h.1, h.2.1⟩, ⟨h.2.2.1, h.2.2.2.1⟩, ⟨h.2.2.2.2.1, h.2.2.2.2.2.1⟩, ⟨h.2.2.2.2.2.2.1, h.2.2.2.2.2.2.2⟩⟩
theorem ok123 : ∀ r ∈ [r1, r2, r3], r.Ok := fun r hr => by
  simp at hr
  rcases hr with rfl | rfl | rfl <;> exact ⟨ok_ad (by decide), ok_ad (by decide)⟩
theorem h1_ok : h1.Ok := ⟨ok_ad (by decide), ok_ad (by decide)⟩
theorem h2_ok : h2.Ok := ⟨ok_ad (by decide), ok_ad (by decide)⟩
theorem good123 : wrongB [r1, r2, r3] = false := by decide
theorem fits1 : fits h1 r1 = true := by
  unfold fits
  rw [show inB h1.src.num r1.spf = true from in_none h1_ok.1.lt, show inB h1.dst.num r1.dpf = true from inB_true ⟨⟨by decide, by decide⟩, by unfold top; decide⟩]
  decide
theorem fits2 : fits h2 r1 = false := by
  unfold fits
  rw [show takes r1 h2.pr = false by decide]
  simp
theorem fits3 : fits h2 r2 = true := rz_fits h2_ok (by decide) (by decide) 1
theorem class_1 : class2 [r1, r2, r3] h1 = (3, 0) := by
  rw [class_good good123, found_cons, if_pos fits1]
  rfl
theorem class_2 : class2 [r1, r2, r3] h2 = (1, 0) := by
  rw [class_good good123, found_cons, if_neg (by rw [fits2]; decide), found_cons, if_pos fits3]
  rfl
theorem cov1 (b : Ru) (h : b.db = 0) : covers b r1 = false := by
  unfold covers
  rw [show holds r1.dpf b.dpf = false by unfold holds; rw [show decide (r1.dpf.bits ≤ b.dpf.bits) = false from decide_eq_false (by show ¬ (8 : Int) ≤ b.db; omega)]; rfl]
  simp
theorem cov2 : covers r3 r2 = true := by
  unfold covers holds
  rw [show inB r3.spf.n r2.spf = true from in_none (ok123 r3 (by simp)).1.lt, show inB r3.dpf.n r2.dpf = true from in_none (ok123 r3 (by simp)).2.lt]
  decide
theorem prune_123 : prune [] [r1, r2, r3] = [r1, r2] := by
  rw [prune_keep (by rfl), prune_keep (by simp [cov1 r2 rfl]), prune_skip (by simp [cov2])]
  rfl

set_option maxRecDepth 100000 in
set_option maxHeartbeats 4000000 in
theorem alive7_any (w : World) : Calls Try.prog 17 #[] w fun e w' => e = .returned (.bool true) ∧ Below w.heap.size w w' := by
  have hb0 : Below w.heap.size w (w.alloc (.cells #[.int .u8 0, .int .u8 0, .int .u8 0, .int .u8 0, .int .u8 10, .int .u8 0, .int .u8 0, .int .u8 0, .int .i64 0, .int .i64 8, .int .i64 17, .int .i64 53, .int .i64 53, .int .i64 3, .int .u8 0, .int .u8 0, .int .u8 0, .int .u8 0, .int .u8 0, .int .u8 0, .int .u8 0, .int .u8 0, .int .i64 0, .int .i64 0, .int .i64 0, .int .i64 0, .int .i64 65535, .int .i64 1, .int .u8 0, .int .u8 0, .int .u8 0, .int .u8 0, .int .u8 0, .int .u8 0, .int .u8 0, .int .u8 0, .int .i64 0, .int .i64 0, .int .i64 6, .int .i64 0, .int .i64 80, .int .i64 2] 32)) := (Below.refl _ _).alloc (Nat.le_refl _) _
  have hP : RusIn (w.alloc (.cells #[.int .u8 0, .int .u8 0, .int .u8 0, .int .u8 0, .int .u8 10, .int .u8 0, .int .u8 0, .int .u8 0, .int .i64 0, .int .i64 8, .int .i64 17, .int .i64 53, .int .i64 53, .int .i64 3, .int .u8 0, .int .u8 0, .int .u8 0, .int .u8 0, .int .u8 0, .int .u8 0, .int .u8 0, .int .u8 0, .int .i64 0, .int .i64 0, .int .i64 0, .int .i64 0, .int .i64 65535, .int .i64 1, .int .u8 0, .int .u8 0, .int .u8 0, .int .u8 0, .int .u8 0, .int .u8 0, .int .u8 0, .int .u8 0, .int .i64 0, .int .i64 0, .int .i64 6, .int .i64 0, .int .i64 80, .int .i64 2] 32)) (some ⟨w.heap.size, 0, none⟩) [r1, r2, r3] := lit_rus w [r1, r2, r3] ok123 (by decide)
  have H1 : Hid (∀ W, Below (w.alloc (.cells #[.int .u8 0, .int .u8 0, .int .u8 0, .int .u8 0, .int .u8 10, .int .u8 0, .int .u8 0, .int .u8 0, .int .i64 0, .int .i64 8, .int .i64 17, .int .i64 53, .int .i64 53, .int .i64 3, .int .u8 0, .int .u8 0, .int .u8 0, .int .u8 0, .int .u8 0, .int .u8 0, .int .u8 0, .int .u8 0, .int .i64 0, .int .i64 0, .int .i64 0, .int .i64 0, .int .i64 65535, .int .i64 1, .int .u8 0, .int .u8 0, .int .u8 0, .int .u8 0, .int .u8 0, .int .u8 0, .int .u8 0, .int .u8 0, .int .i64 0, .int .i64 0, .int .i64 6, .int .i64 0, .int .i64 80, .int .i64 2] 32)).heap.size (w.alloc (.cells #[.int .u8 0, .int .u8 0, .int .u8 0, .int .u8 0, .int .u8 10, .int .u8 0, .int .u8 0, .int .u8 0, .int .i64 0, .int .i64 8, .int .i64 17, .int .i64 53, .int .i64 53, .int .i64 3, .int .u8 0, .int .u8 0, .int .u8 0, .int .u8 0, .int .u8 0, .int .u8 0, .int .u8 0, .int .u8 0, .int .i64 0, .int .i64 0, .int .i64 0, .int .i64 0, .int .i64 65535, .int .i64 1, .int .u8 0, .int .u8 0, .int .u8 0, .int .u8 0, .int .u8 0, .int .u8 0, .int .u8 0, .int .u8 0, .int .i64 0, .int .i64 0, .int .i64 6, .int .i64 0, .int .i64 80, .int .i64 2] 32)) W → Calls Try.prog 9 #[.slice (some ⟨w.heap.size, 0, none⟩) 3 3, .agg #[.int .u8 0, .int .u8 0, .int .u8 0, .int .u8 0, .int .u8 10, .int .u8 9, .int .u8 0, .int .u8 0, .int .i64 17, .int .i64 0, .int .i64 53, .int .i64 0, .int .i64 0]] W fun e w' => e = .returned (.tuple #[.int .i64 3, .int .i64 0]) ∧ Below W.heap.size W w') := Lib.hid (fun W hW => by
    have := class_any (hP.below hW) 3 (by decide) h1 h1_ok
    rw [class_1] at this
    exact this)
  have H2 : Hid (∀ W, Below (w.alloc (.cells #[.int .u8 0, .int .u8 0, .int .u8 0, .int .u8 0, .int .u8 10, .int .u8 0, .int .u8 0, .int .u8 0, .int .i64 0, .int .i64 8, .int .i64 17, .int .i64 53, .int .i64 53, .int .i64 3, .int .u8 0, .int .u8 0, .int .u8 0, .int .u8 0, .int .u8 0, .int .u8 0, .int .u8 0, .int .u8 0, .int .i64 0, .int .i64 0, .int .i64 0, .int .i64 0, .int .i64 65535, .int .i64 1, .int .u8 0, .int .u8 0, .int .u8 0, .int .u8 0, .int .u8 0, .int .u8 0, .int .u8 0, .int .u8 0, .int .i64 0, .int .i64 0, .int .i64 6, .int .i64 0, .int .i64 80, .int .i64 2] 32)).heap.size (w.alloc (.cells #[.int .u8 0, .int .u8 0, .int .u8 0, .int .u8 0, .int .u8 10, .int .u8 0, .int .u8 0, .int .u8 0, .int .i64 0, .int .i64 8, .int .i64 17, .int .i64 53, .int .i64 53, .int .i64 3, .int .u8 0, .int .u8 0, .int .u8 0, .int .u8 0, .int .u8 0, .int .u8 0, .int .u8 0, .int .u8 0, .int .i64 0, .int .i64 0, .int .i64 0, .int .i64 0, .int .i64 65535, .int .i64 1, .int .u8 0, .int .u8 0, .int .u8 0, .int .u8 0, .int .u8 0, .int .u8 0, .int .u8 0, .int .u8 0, .int .i64 0, .int .i64 0, .int .i64 6, .int .i64 0, .int .i64 80, .int .i64 2] 32)) W → Calls Try.prog 9 #[.slice (some ⟨w.heap.size, 0, none⟩) 3 3, .agg #[.int .u8 0, .int .u8 0, .int .u8 0, .int .u8 0, .int .u8 0, .int .u8 0, .int .u8 0, .int .u8 0, .int .i64 6, .int .i64 0, .int .i64 80, .int .i64 0, .int .i64 0]] W fun e w' => e = .returned (.tuple #[.int .i64 1, .int .i64 0]) ∧ Below W.heap.size W w') := Lib.hid (fun W hW => by
    have := class_any (hP.below hW) 3 (by decide) h2 h2_ok
    rw [class_2] at this
    exact this)
  have H3 : Hid (∀ W, Below (w.alloc (.cells #[.int .u8 0, .int .u8 0, .int .u8 0, .int .u8 0, .int .u8 10, .int .u8 0, .int .u8 0, .int .u8 0, .int .i64 0, .int .i64 8, .int .i64 17, .int .i64 53, .int .i64 53, .int .i64 3, .int .u8 0, .int .u8 0, .int .u8 0, .int .u8 0, .int .u8 0, .int .u8 0, .int .u8 0, .int .u8 0, .int .i64 0, .int .i64 0, .int .i64 0, .int .i64 0, .int .i64 65535, .int .i64 1, .int .u8 0, .int .u8 0, .int .u8 0, .int .u8 0, .int .u8 0, .int .u8 0, .int .u8 0, .int .u8 0, .int .i64 0, .int .i64 0, .int .i64 6, .int .i64 0, .int .i64 80, .int .i64 2] 32)).heap.size (w.alloc (.cells #[.int .u8 0, .int .u8 0, .int .u8 0, .int .u8 0, .int .u8 10, .int .u8 0, .int .u8 0, .int .u8 0, .int .i64 0, .int .i64 8, .int .i64 17, .int .i64 53, .int .i64 53, .int .i64 3, .int .u8 0, .int .u8 0, .int .u8 0, .int .u8 0, .int .u8 0, .int .u8 0, .int .u8 0, .int .u8 0, .int .i64 0, .int .i64 0, .int .i64 0, .int .i64 0, .int .i64 65535, .int .i64 1, .int .u8 0, .int .u8 0, .int .u8 0, .int .u8 0, .int .u8 0, .int .u8 0, .int .u8 0, .int .u8 0, .int .i64 0, .int .i64 0, .int .i64 6, .int .i64 0, .int .i64 80, .int .i64 2] 32)) W → Calls Try.prog 14 #[.slice (some ⟨w.heap.size, 0, none⟩) 3 3] W fun e w' => (∃ A cap, e = .returned (.tuple #[.slice A 2 cap, .int .i64 0])) ∧ Below W.heap.size W w') := Lib.hid (fun W hW => by
    refine (prune_any (hP.below hW) 3 (by decide)).mono ?_
    rintro e w' ⟨hb, ⟨h0, _⟩ | ⟨_, v, rfl, ho⟩⟩
    · rw [good123] at h0; cases h0
    · rw [prune_123] at ho
      obtain ⟨A, cap, rfl, _, _⟩ := ho.form (fun r hr => ok123 r (by simp at hr; rcases hr with rfl | rfl <;> simp)) (by decide)
      exact ⟨⟨A, cap, rfl⟩, hb⟩)
  have HB0 := Lib.hid hb0
  clear hP hb0
  go_enter Try.func17, Try.ntmps17
  go_wp2_with fail
  generalize w.alloc (.cells #[.int .u8 0, .int .u8 0, .int .u8 0, .int .u8 0, .int .u8 10, .int .u8 0, .int .u8 0, .int .u8 0, .int .i64 0, .int .i64 8, .int .i64 17, .int .i64 53, .int .i64 53, .int .i64 3, .int .u8 0, .int .u8 0, .int .u8 0, .int .u8 0, .int .u8 0, .int .u8 0, .int .u8 0, .int .u8 0, .int .i64 0, .int .i64 0, .int .i64 0, .int .i64 0, .int .i64 65535, .int .i64 1, .int .u8 0, .int .u8 0, .int .u8 0, .int .u8 0, .int .u8 0, .int .u8 0, .int .u8 0, .int .u8 0, .int .i64 0, .int .i64 0, .int .i64 6, .int .i64 0, .int .i64 80, .int .i64 2] 32) = m at *
  refine (H1.out _ (Below.refl _ _)).mono ?_
  rintro e w1 ⟨rfl, hb1⟩
  have HB1 := Lib.hid hb1
  clear hb1
  go_wp2_with fail
  refine (H2.out _ HB1.out).mono ?_
  rintro e w2 ⟨rfl, hb⟩
  have HB2 := Lib.hid (HB1.out.trans (hb.mono HB1.out.size))
  clear hb
  go_wp2_with fail
  refine (H3.out _ HB2.out).mono ?_
  rintro e w3 ⟨⟨A, cap, rfl⟩, hb⟩
  have HB3 := Lib.hid (HB0.out.trans ((HB2.out.trans (hb.mono HB2.out.size)).mono HB0.out.size))
  clear hb
  go_wp2_with fail
  go_ret
  exact ⟨rfl, HB3.out⟩
end Go.Proofs.Ytandfbepenjbhaa
