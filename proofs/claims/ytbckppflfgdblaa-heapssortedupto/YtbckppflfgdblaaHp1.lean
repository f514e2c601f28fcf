/- (*queue).before tells whether one item comes before another; (*queue).swap exchanges two items. -/
import Derived.Test.YtbckppflfgdblaaHp0
import Derived.Deep.RegionHeld3
import Derived.Deep.QuietTactic
import Derived.BigQuiet
import Derived.BigRegion
import Derived.StillTailTactics
namespace Go.Proofs.Ytbckppflfgdblaa
open Go.RowKit Go.Maps

theorem bef_cmp (a b : It) : bef a b = if cW a.hi a.lo b.hi b.lo = 0 then decide (a.id < b.id) else decide (cW a.hi a.lo b.hi b.lo < 0) := by
  unfold bef Bef cW cmpI
  by_cases h1 : a.hi = b.hi
  · simp only [h1, if_true]
    by_cases h2 : a.lo < b.lo
    · simp [h2]
    · by_cases h3 : b.lo < a.lo
      · simp [h2, h3]; omega
      · have : a.lo = b.lo := by omega
        simp [this]
  · simp only [h1, if_false]
    by_cases h2 : a.hi < b.hi
    · simp [h2]
    · have h3 : b.hi < a.hi := by omega
      simp [h2, h3]
theorem bef_ne {a b : It} {c : Int} (h : cW a.hi a.lo b.hi b.lo = c) (hc : ¬ c = 0) : bef a b = decide (c < 0) := by rw [bef_cmp, h, if_neg hc]
theorem bef_eq {a b : It} {c : Int} (h : cW a.hi a.lo b.hi b.lo = c) (hc : c = 0) : bef a b = decide (a.id < b.id) := by rw [bef_cmp, h, if_pos hc]
theorem below_two (w : World) (o1 o2 : Obj) {w1 : World} (hb : Below (((w.alloc o1).alloc o2).drew).heap.size (((w.alloc o1).alloc o2).drew) w1) : Below w.heap.size w w1 := by
  have h0 : Below w.heap.size w ((w.alloc o1).alloc o2) := ((Below.refl _ _).alloc (Nat.le_refl _) o1).alloc (by simp) o2
  have h1 : Below w.heap.size w (((w.alloc o1).alloc o2).drew) := ⟨h0.os, h0.tape, h0.output, h0.size, h0.block⟩
  exact h1.trans (hb.mono h0.size)
theorem ret_bool {a b : Bool} (h : a = b) : Ending.returned (.bool a) = .returned (.bool b) := by rw [h]

set_option maxHeartbeats 1000000 in
theorem before_any {w : World} {q g m cap n : Nat} {P : Value} {f : Nat → It} (h : QH w q g m cap n P f) {i j : Nat} (hi : i < n) (hj : j < n) :
    Calls Try.prog 65 #[.pointer (some ⟨q, 0, none⟩), .int .i64 (i : Int), .int .i64 (j : Int)] w fun e w' => e = .returned (.bool (bef (f i) (f j))) ∧ Below w.heap.size w w' := by
  have hc0 := h.c0
  obtain ⟨a0, a1, a2⟩ := h.it hi
  obtain ⟨b0, b1, b2⟩ := h.it hj
  have hq := h.row.lt
  have hg : g < w.heap.size := by obtain ⟨F, hF, _⟩ := h.items; exact hF.lt
  have hq1 : q < w.heap.size + 1 := by omega
  have hg1 : g < w.heap.size + 1 := by omega
  have i1 : (i : Int) < (n : Int) := by omega
  have j1 : (j : Int) < (n : Int) := by omega
  clear h
  generalize f i = x at *
  generalize f j = y at *
  obtain ⟨c, hc⟩ : ∃ c, cW x.hi x.lo y.hi y.lo = c := ⟨_, rfl⟩
  have hcmp : ∀ W : World, Calls Try.prog 67 #[.agg #[.int .u64 x.hi, .int .u64 x.lo], .agg #[.int .u64 y.hi, .int .u64 y.lo]] W fun e w' => e = .returned (.int .i64 c) ∧ Below W.heap.size W w' := fun W => by rw [← hc]; exact cmp_any _ _ _ _ W
  have HC := Lib.hid hcmp
  have HE := Lib.hid hc
  clear hcmp hc
  by_cases hz : c = 0
  · have HB := Lib.hid (bef_eq HE.out hz)
    have hz1 : (c != 0) = false := by simp [hz]
    clear hz
    go_enter Try.func65, Try.ntmps65
    go_wp2
    go_region
    all_goals
      go_wp2_with fail
      refine (HC.out _).mono ?_
      rintro e w1 ⟨rfl, hb⟩
      obtain ⟨k1, k2⟩ := bcell hb
      go_wp2
      go_ret
      exact ⟨ret_bool HB.out.symm, below_two w _ _ hb⟩
  · have HB := Lib.hid (bef_ne HE.out hz)
    have hz1 : (c != 0) = true := by simp [hz]
    clear hz
    go_enter Try.func65, Try.ntmps65
    go_wp2
    go_region
    all_goals
      go_wp2_with fail
      refine (HC.out _).mono ?_
      rintro e w1 ⟨rfl, hb⟩
      obtain ⟨k1, k2⟩ := bcell hb
      go_wp2
      go_ret
      exact ⟨ret_bool HB.out.symm, below_two w _ _ hb⟩

end Go.Proofs.Ytbckppflfgdblaa
