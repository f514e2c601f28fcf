/- The document's own answer: the first item of the table (the closure 'first' of CPlay). -/
import Derived.Test.YtbckppflfgdblaaHp20
namespace Go.Proofs.Ytbckppflfgdblaa
open Go.RowKit Go.Maps

/-- What holds in the loop over the table. -/
def FL (w : World) (b n : Nat) (D : DataW Unit) (M : Held) (best : Int) (sm : Bool) (wr : World) : Prop :=
  ∃ (left : Lit → Bool) (cnt : Nat), wr.ranges Try.prog 3 wElem b w.heap.size n D left cnt ∧ FI M left best sm ∧ Below w.heap.size w wr
theorem below_grown {w a b : World} {r : Nat} (h : Below w.heap.size w a) (hg : a.grownBy b (some r)) (hr : w.heap.size ≤ r) : Below w.heap.size w b :=
  h.trans ((Chg.of_grown (S := fun k => k = r) hg (fun k e => by injection e with e; exact e.symm)).below h.size (fun k e => by omega))
theorem ret_int {a b : Int} (h : a = b) : Ending.returned (.int .i64 a) = .returned (.int .i64 b) := by rw [h]
theorem bef_lt1 {x y : Int} {c d : Int × Int} (h : c.1 < d.1) : Bef ⟨x, c.1, c.2⟩ ⟨y, d.1, d.2⟩ := .inl h
theorem bef_gt1 {x y : Int} {c d : Int × Int} (h : d.1 < c.1) : ¬ Bef ⟨x, c.1, c.2⟩ ⟨y, d.1, d.2⟩ := by unfold Bef; simp only; omega
theorem bef_lt2 {x y : Int} {c d : Int × Int} (h : c.1 = d.1) (h2 : c.2 < d.2) : Bef ⟨x, c.1, c.2⟩ ⟨y, d.1, d.2⟩ := .inr ⟨h, .inl h2⟩
theorem bef_gt2 {x y : Int} {c d : Int × Int} (h : c.1 = d.1) (h2 : d.2 < c.2) : ¬ Bef ⟨x, c.1, c.2⟩ ⟨y, d.1, d.2⟩ := by unfold Bef; simp only; omega
theorem bef_lt3 {x y : Int} {c d : Int × Int} (h : c.1 = d.1) (h2 : c.2 = d.2) (h3 : x < y) : Bef ⟨x, c.1, c.2⟩ ⟨y, d.1, d.2⟩ := .inr ⟨h, .inr ⟨h2, h3⟩⟩
theorem bef_gt3 {x y : Int} {c d : Int × Int} (h : c.1 = d.1) (h2 : c.2 = d.2) (h3 : ¬ x < y) : ¬ Bef ⟨x, c.1, c.2⟩ ⟨y, d.1, d.2⟩ := by unfold Bef; simp only; omega

theorem fl_start {w w0 : World} {b n : Nat} {D : DataW Unit} {M : Held} (hM : DM D n M) (hr : w0.ranges Try.prog 3 wElem b w.heap.size n D (Maps.has D) (Maps.size D)) (hg : w.grownBy w0 none) : FL w b n D M 0 false w0 := by
  refine ⟨_, _, hr, ⟨I64.of (by decide) (by decide), fun _ y hy => ?_, fun e => (by cases e)⟩, (Chg.of_grown (S := fun _ => False) hg (fun k e => by cases e)).below (Nat.le_refl _) (fun k e => e.elim)⟩
  cases hk : M y with
  | none => rw [hk] at hy; cases hy
  | some k => rw [hM.has y (hM.i64 hk), hk]; rfl

/-- The step: x has come, with the key c. -/
theorem fl_entry {D : DataW Unit} {n : Nat} {M : Held} (hM : DM D n M) {x : Int} {c : Int × Int} {kl : Lit} {y : DataW Unit × List MemPlace}
    (hk : keyOf Try.prog 3 (.int .i64 x) = some kl) (hv : wElem (.agg #[.int .u64 c.1, .int .u64 c.2]) = some y) (hat : ∀ zd, D.atKey kl zd = y.1) : I64 x ∧ kl = .int .i64 x ∧ M x = some c := by
  obtain ⟨x', ex, rfl, hw⟩ := keyOf_int_inv Try.underlying3 hk
  cases ex
  rw [wElem_mk] at hv
  injection hv with hv
  have h1 := hM.has x hw
  rw [has_true_of_atKey hat] at h1
  refine ⟨hw, rfl, ?_⟩
  cases hx : M x with
  | none => rw [hx] at h1; cases h1
  | some k =>
    have h2 := hM.val x k hx
    rw [hat, ← hv] at h2
    rw [datum_inj (a := c) (b := k) h2]

theorem fl_key {D : DataW Unit} {n : Nat} {M : Held} (hM : DM D n M) {best v0 v1 : Int} (hv : D.atKey (.int .i64 best) (datum (0, 0)) = datum (v0, v1)) : ∀ k, M best = some k → k = (v0, v1) := fun k hk => by
  have := hM.val best k hk
  rw [hv] at this
  exact (datum_inj this).symm
theorem fl_pick {w wr w1 : World} {b n : Nat} {D : DataW Unit} {M : Held} {left : Lit → Bool} {cnt cnt1 : Nat} {best x c1 c2 v0 v1 : Int} {sm : Bool} (hM : DM D n M) (hfi : FI M left best sm) (hg : wr.ranges Try.prog 3 wElem b w.heap.size n D left cnt)
    (h : I64 x ∧ M x = some (c1, c2) ∧ w1.ranges Try.prog 3 wElem b w.heap.size n D (fun z => left z && !z.sameKey (.int .i64 x)) cnt1 ∧ Below w.heap.size w w1 ∧ D.atKey (.int .i64 best) (datum (0, 0)) = datum (v0, v1) ∧ cnt1 < cnt)
    (hb : sm = true → Bef ⟨x, c1, c2⟩ ⟨best, v0, v1⟩) (o1 o2 : Obj) :
    (∃ (bst : Int) (s : Bool), Value.int .i64 x = .int .i64 bst ∧ Value.bool true = .bool s ∧ Hid (FL w b n D M bst s ((w1.alloc o1).alloc o2))) ∧ ((w1.alloc o1).alloc o2).rangeLeft b w.heap.size < wr.rangeLeft b w.heap.size := by
  obtain ⟨h1, h2, h3, h4, h5, h6⟩ := h
  have h3' := (h3.alloc o1).alloc o2
  refine ⟨⟨x, true, rfl, rfl, Lib.hid ⟨_, _, h3', hfi.pick h1 h2 (fun e k hk => ?_), (h4.alloc h4.size o1).alloc (Nat.le_trans h4.size (by simp)) o2⟩⟩, by rw [h3'.left_eq, hg.left_eq]; exact h6⟩
  rw [fl_key hM h5 k hk]
  exact hb e
theorem fl_stay {w wr w1 : World} {b n : Nat} {D : DataW Unit} {M : Held} {left : Lit → Bool} {cnt cnt1 : Nat} {best x c1 c2 v0 v1 : Int} (hM : DM D n M) (hfi : FI M left best true) (hg : wr.ranges Try.prog 3 wElem b w.heap.size n D left cnt)
    (h : I64 x ∧ M x = some (c1, c2) ∧ w1.ranges Try.prog 3 wElem b w.heap.size n D (fun z => left z && !z.sameKey (.int .i64 x)) cnt1 ∧ Below w.heap.size w w1 ∧ D.atKey (.int .i64 best) (datum (0, 0)) = datum (v0, v1) ∧ cnt1 < cnt)
    (hb : ¬ Bef ⟨x, c1, c2⟩ ⟨best, v0, v1⟩) (o1 o2 : Obj) :
    (∃ (bst : Int) (s : Bool), Value.int .i64 best = .int .i64 bst ∧ Value.bool true = .bool s ∧ Hid (FL w b n D M bst s ((w1.alloc o1).alloc o2))) ∧ ((w1.alloc o1).alloc o2).rangeLeft b w.heap.size < wr.rangeLeft b w.heap.size := by
  obtain ⟨h1, h2, h3, h4, h5, h6⟩ := h
  have h3' := (h3.alloc o1).alloc o2
  refine ⟨⟨best, true, rfl, rfl, Lib.hid ⟨_, _, h3', hfi.stay h2 (fun k hk => ?_), (h4.alloc h4.size o1).alloc (Nat.le_trans h4.size (by simp)) o2⟩⟩, by rw [h3'.left_eq, hg.left_eq]; exact h6⟩
  rw [fl_key hM h5 k hk]
  exact hb

set_option maxRecDepth 100000 in
set_option maxHeartbeats 2000000 in
theorem first_any {w : World} {b kb n : Nat} {M : Held} (h : KMap w b n M) (hc : w.cell? ⟨kb, 0, none⟩ = some (.map (some b))) (hk : kb < w.heap.size) (hs : ∃ x, (M x).isSome = true) :
    Calls Try.prog 25 #[.pointer (some ⟨kb, 0, none⟩)] w fun e w' => e = .returned (.int .i64 (least M)) ∧ Below w.heap.size w w' := by
  obtain ⟨D, hown, hM⟩ := h
  have HM := Lib.hid (And.intro hM (And.intro hs hk))
  clear hM hs hk
  go_enter Try.func25, Try.ntmps25
  go_wp2_with (first
    | (at_range; refine wpList_range_own _ rfl _ 58 rfl 3 35 keyed Try.underlying58 _ b n _ rfl hown ?_; intro w0 hrg0 hg0 hs0)
    | fail)
  go_frame
  go_loopw [2, 3] (fun a s wr => ∃ (best : Int) (sm : Bool), a = .int .i64 best ∧ s = .bool sm ∧ Hid (FL w b n D M best sm wr)) (fun _ _ wr => wr.rangeLeft b w.heap.size)
  case atStart => exact ⟨0, false, rfl, rfl, Lib.hid (fl_start HM.out.1 hrg0 hg0)⟩
  case round =>
    clear hrg0 hg0 hs0
    obtain ⟨best, sm, rfl, rfl, HF⟩ := hrel
    obtain ⟨left, cnt, hrg, hfi, hbl⟩ := HF.out
    have HI := Lib.hid (And.intro hfi hbl)
    clear hfi hbl HF
    go_wp2_with (first
      | (at_next; refine wpList_next_ranges _ rfl _ rfl 3 keyed wElem (fun x : Int => .int .i64 x) (fun c : Int × Int => .agg #[.int .u64 c.1, .int .u64 c.2]) (fun key kl hkey => by obtain ⟨x, rfl, _⟩ := keyOf_int_inv Try.underlying3 hkey; exact ⟨x, rfl⟩) (fun v y hv => by obtain ⟨c, rfl, _⟩ := wElem_inv hv; exact ⟨c, rfl⟩) b w.heap.size n _ _ _ rfl hrg ?_ ?_)
      | fail)
    · intro _ hl0
      go_wp2
      go_ret
      exact ⟨ret_int (HI.out.1.done hl0 HM.out.2.1), HI.out.2⟩
    · intro x c1 c2 kl yd yp w1 cnt1 hkey hlk hv hat hrg1 hlt hg1 hs1 hen
      obtain ⟨hxi, rfl, hMx⟩ := fl_entry (c := (c1, c2)) (y := (yd, yp)) HM.out.1 hkey hv hat
      have hb1 := below_grown HI.out.2 hg1 (Nat.le_refl _)
      have dk : w1.cell? ⟨kb, 0, none⟩ = some (.map (some b)) := by rw [(bcell hb1).1 _ _ HM.out.2.2]; exact hc
      have hk1 : kb < w1.heap.size := Nat.lt_of_lt_of_le HM.out.2.2 hb1.size
      obtain ⟨v, hlook, hval⟩ := look_one (World.ranges.owns (hrg1.alloc (.cells #[.int .u64 c1, .int .u64 c2] 35))) HI.out.1.i64
      have HX := Lib.hid (And.intro hxi (And.intro hMx (And.intro hrg1 (And.intro hb1 (And.intro hval hlt)))))
      have HG := Lib.hid hrg
      clear hkey hlk hv hat hrg1 hlt hg1 hs1 hxi hMx hb1 hval hrg
      obtain ⟨v0, v1⟩ := v
      simp only at hlook
      cases sm with
      | false =>
        go_wp2
        exact fl_pick HM.out.1 HI.out.1 HG.out HX.out (fun e => (by cases e)) _ _
      | true =>
        rcases Int.lt_trichotomy c1 v0 with t1 | t1 | t1
        · go_wp2
          exact fl_pick HM.out.1 HI.out.1 HG.out HX.out (fun _ => .inl t1) _ _
        · subst t1
          rcases Int.lt_trichotomy c2 v1 with t2 | t2 | t2
          · go_wp2
            exact fl_pick HM.out.1 HI.out.1 HG.out HX.out (fun _ => .inr ⟨rfl, .inl t2⟩) _ _
          · subst t2
            by_cases t3 : x < best
            · go_wp2
              exact fl_pick HM.out.1 HI.out.1 HG.out HX.out (fun _ => .inr ⟨rfl, .inr ⟨rfl, t3⟩⟩) _ _
            · go_wp2
              exact fl_stay HM.out.1 HI.out.1 HG.out HX.out (by unfold Bef; simp only; omega) _ _
          · have e2 : (c2 == v1) = false := beq_eq_false_iff_ne.2 (by omega)
            have l2 : ¬ c2 < v1 := by omega
            go_wp2
            exact fl_stay HM.out.1 HI.out.1 HG.out HX.out (by unfold Bef; simp only; omega) _ _
        · have e1 : (c1 == v0) = false := beq_eq_false_iff_ne.2 (by omega)
          have l1 : ¬ c1 < v0 := by omega
          go_wp2
          exact fl_stay HM.out.1 HI.out.1 HG.out HX.out (by unfold Bef; simp only; omega) _ _

end Go.Proofs.Ytbckppflfgdblaa
