/- Package scfq: in, out. -/
import Derived.Test.YtobkepipmmkboaaSc4
import Derived.Test.YtobkepipmmkboaaSc5
import Derived.Deep.RegionWith
namespace Go.Proofs.Ytobkepipmmkboaa
open Go.RowKit Go.Maps

/-- What is wrong with a packet that comes. -/
def inErr (n : Nat) (f b : Int) : Int := if f < 0 ∨ (n : Int) ≤ f then 3 else if b < 1 ∨ 1500 < b then 2 else 0
set_option maxRecDepth 100000 in
set_option maxHeartbeats 8000000 in
theorem in_bad {w wr : World} {lb fb eb n : Nat} {o : Obj} {xs : List Int} {S : List (Nat × Int)} {s : Sc} (h : LkE w wr lb fb eb o n xs S s) (hn16 : n ≤ 16) {f b E : Int} (hE : inErr n f b = E) (h0 : E ≠ 0) :
    Calls Try.prog 21 #[.pointer (some ⟨lb, 0, none⟩), .int .i64 f, .int .i64 b] wr fun e w' => e = .returned (.int .i64 E) ∧ wr = w' := by
  obtain ⟨v, Aq, cq, h⟩ := h
  have c1 := h.c1
  have e1 : IntKind.i64.wrap ((n : Int) - 1) = (n : Int) - 1 := wrap_in (by omega) (by omega)
  have H1 := Lib.hid (fun w => between_eq f 0 ((n : Int) - 1) w)
  have H2 := Lib.hid (fun w => between_eq b 1 1500 w)
  unfold inErr at hE
  clear h
  by_cases c : f < 0 ∨ (n : Int) ≤ f
  · rw [if_pos c] at hE
    subst hE
    rw [show btw f 0 ((n : Int) - 1) = false from by unfold btw; rw [Bool.and_eq_false_iff, decide_eq_false_iff_not, decide_eq_false_iff_not]; omega] at H1
    clear c h0
    go_enter Try.func21, Try.ntmps21
    go_wp2_with fail
    refine (H1.out _).mono ?_
    rintro e w1 ⟨rfl, rfl⟩
    go_wp2_with fail
    go_ret
    exact ⟨rfl, rfl⟩
  · rw [if_neg c] at hE
    rw [show btw f 0 ((n : Int) - 1) = true from by unfold btw; rw [Bool.and_eq_true, decide_eq_true_eq, decide_eq_true_eq]; omega] at H1
    by_cases c2 : b < 1 ∨ 1500 < b
    · rw [if_pos c2] at hE
      subst hE
      rw [show btw b 1 1500 = false from by unfold btw; rw [Bool.and_eq_false_iff, decide_eq_false_iff_not, decide_eq_false_iff_not]; omega] at H2
      clear c c2 h0
      go_enter Try.func21, Try.ntmps21
      go_wp2_with fail
      refine (H1.out _).mono ?_
      rintro e w1 ⟨rfl, rfl⟩
      go_wp2_with fail
      refine (H2.out _).mono ?_
      rintro e w1 ⟨rfl, rfl⟩
      go_wp2_with fail
      go_ret
      exact ⟨rfl, rfl⟩
    · rw [if_neg c2] at hE
      exact absurd hE.symm h0
set_option maxRecDepth 100000 in
set_option maxHeartbeats 8000000 in
theorem in_ok {w wr : World} {lb fb eb n : Nat} {o : Obj} {xs : List Int} {S : List (Nat × Int)} {s : Sc} (h : LkE w wr lb fb eb o n xs S s) (hn16 : n ≤ 16) (hR : Right xs) (hn : xs.length = n) {k : Nat} (hk : k < n) {b : Int} (hb : 1 ≤ b ∧ b ≤ 1500) (hL : s.Low 400) :
    Calls Try.prog 21 #[.pointer (some ⟨lb, 0, none⟩), .int .i64 (k : Int), .int .i64 b] wr fun e w' => e = .returned (.int .i64 0) ∧ LkE w w' lb fb eb o n xs S (s.come (uW xs) k b) := by
  have HA : Hid (∀ q, Calls Try.prog 25 #[.pointer (some ⟨fb, k * 3, none⟩), .int .i64 b, .int .i64 s.tm] (wr.drewN q) fun e w' => e = .returned (.tuple #[]) ∧ LkE w w' lb fb eb o n xs S (s.come (uW xs) k b)) := Lib.hid (fun q => by
    obtain ⟨v, Aq, cq, h⟩ := h
    exact add_any ⟨v, Aq, cq, h.drewN q⟩ hR hn hk hb hL)
  obtain ⟨v, Aq, cq, h⟩ := h
  have c0 := h.c0
  have c1 := h.c1
  have k1 : (k : Int) < (n : Int) := by omega
  have e1 : IntKind.i64.wrap ((n : Int) - 1) = (n : Int) - 1 := wrap_in (by omega) (by omega)
  have H1 := Lib.hid (fun w => between_eq (k : Int) 0 ((n : Int) - 1) w)
  have H2 := Lib.hid (fun w => between_eq b 1 1500 w)
  rw [show btw (k : Int) 0 ((n : Int) - 1) = true from by unfold btw; rw [Bool.and_eq_true, decide_eq_true_eq, decide_eq_true_eq]; omega] at H1
  rw [show btw b 1 1500 = true from by unfold btw; rw [Bool.and_eq_true, decide_eq_true_eq, decide_eq_true_eq]; omega] at H2
  have hl := h.row.lt
  clear h hR hL hn
  go_enter Try.func21, Try.ntmps21
  go_wp2_with fail
  refine (H1.out _).mono ?_
  rintro e w1 ⟨rfl, rfl⟩
  go_wp2_with fail
  refine (H2.out _).mono ?_
  rintro e w1 ⟨rfl, rfl⟩
  clear H1 H2
  go_upto_region 5 with fail
  go_region_with (go_at_call 25; refine (HA.out 1).mono ?_; rintro e w1 ⟨rfl, hP⟩; have HP := Lib.hid hP; clear hP)
  all_goals
    go_wp2_with fail
    go_ret
    exact ⟨rfl, HP.out⟩
set_option maxHeartbeats 4000000 in
theorem out_none {w wr : World} {lb fb eb n : Nat} {o : Obj} {xs : List Int} {S : List (Nat × Int)} {s : Sc} (h : LkE w wr lb fb eb o n xs S s) (h4 : ∀ k, (s.q k).length ≤ 400) (hn16 : n ≤ 16) (hb : bestF s.q n = none) :
    Calls Try.prog 22 #[.pointer (some ⟨lb, 0, none⟩)] wr fun e w' => e = .returned (.int .i64 3) ∧ Below wr.heap.size wr w' := by
  have H := Lib.hid (next_any h h4 hn16)
  rw [hb, show nxt none = -1 from rfl] at H
  clear h hb
  go_enter Try.func22, Try.ntmps22
  go_wp2_with fail
  refine H.out.mono ?_
  rintro e w1 ⟨rfl, hw⟩
  have HW := Lib.hid hw
  clear hw
  go_wp2_with fail
  go_ret
  exact ⟨rfl, HW.out⟩
set_option maxRecDepth 100000 in
set_option maxHeartbeats 8000000 in
theorem out_some {w wr : World} {lb fb eb n : Nat} {o : Obj} {xs : List Int} {S : List (Nat × Int)} {s : Sc} (h : LkE w wr lb fb eb o n xs S s) (h4 : ∀ k, (s.q k).length ≤ 400) (hn16 : n ≤ 16) (hS : S.length ≤ 100000) {f : Nat} {b g : Int} (hb : bestF s.q n = some (f, b, g)) :
    Calls Try.prog 22 #[.pointer (some ⟨lb, 0, none⟩)] wr fun e w' => e = .returned (.int .i64 0) ∧ LkE w w' lb fb eb o n xs (S ++ [(f, b)]) (s.send f g) := by
  have H := Lib.hid (next_any h h4 hn16)
  rw [hb, show nxt (some (f, b, g)) = (f : Int) from rfl] at H
  have hbs := bestF_some hb
  have hf := hbs.lt
  have k1 : (f : Int) < (n : Int) := by omega
  have e0 : decide ((f : Int) < 0) = false := by rw [decide_eq_false_iff_not]; omega
  obtain ⟨r, hr⟩ := hbs.has
  have HS : Hid (∀ W, LkE w W lb fb eb o n xs (S ++ [(f, b)]) ⟨g, s.last, fun i => if i = f then r else s.q i⟩ → LkE w W lb fb eb o n xs (S ++ [(f, b)]) (s.send f g)) := Lib.hid (fun W hW => by
    unfold Sc.send
    rw [hr]
    exact hW)
  have HL : Hid (∀ W, Below wr.heap.size wr W → LkE w W lb fb eb o n xs S s) := Lib.hid (fun W hW => by
    obtain ⟨v, Aq, cq, h⟩ := h
    exact ⟨v, Aq, cq, h.later hW⟩)
  have HR := Lib.hid hr
  clear h hb hbs hr
  go_enter Try.func22, Try.ntmps22
  go_wp2_with fail
  refine H.out.mono ?_
  rintro e w1 ⟨rfl, hw⟩
  have H1 := Lib.hid (HL.out _ hw)
  have HT := Lib.hid (take_any H1.out hf HR.out)
  have c1 : w1.cell? ⟨lb, 1, none⟩ = some (.slice (some ⟨fb, 0, none⟩) n n) := by
    obtain ⟨v, Aq, cq, h⟩ := H1.out
    exact h.c1
  clear hw H H1 HL HR
  go_wp2_with fail
  refine HT.out.mono ?_
  rintro e w2 ⟨rfl, hw⟩
  obtain ⟨v, Aq, cq, hw⟩ := hw
  have bo : Below w2.heap.size w2 (w2.alloc (.cells #[.int .i64 b, .int .i64 g] 69)) := (Below.refl _ _).alloc (Nat.le_refl _) _
  have H3 := Lib.hid (hw.later bo)
  have hpv : v.ownBlock ≠ some w2.heap.size := fun e => by have := (World.ownsRow.lt hw.sent _ e).2; omega
  have hpl : w2.heap.size ≠ lb := by have := hw.row.lt; omega
  have hn := heap_alloc_new w2 (.cells #[.int .i64 b, .int .i64 g] 69)
  have p0 : (w2.alloc (.cells #[.int .i64 b, .int .i64 g] 69)).cell? ⟨w2.heap.size, 0, none⟩ = some (.int .i64 b) := cell_of_row _ _ 0 _ _ _ hn
  have p1 : (w2.alloc (.cells #[.int .i64 b, .int .i64 g] 69)).cell? ⟨w2.heap.size, 1, none⟩ = some (.int .i64 g) := cell_of_row _ _ 1 _ _ _ hn
  have pl : w2.heap.size < (w2.alloc (.cells #[.int .i64 b, .int .i64 g] 69)).heap.size := by simp
  clear hw HT c1 bo hn
  go_upto_region 5 with fail
  generalize w2.alloc (.cells #[.int .i64 b, .int .i64 g] 69) = w3 at *
  generalize w2.heap.size = pb at *
  obtain ⟨Av, nv, cv, W, hrun, s0, s1, hP, hbl⟩ := H3.out.drew.pushS f b hS
  have c2 := H3.out.c2
  have l2 := H3.out.row.lt
  have HRUN := Lib.hid hrun
  have p5 : (W.setCell ⟨lb, 2, none⟩ (.slice Av nv cv)).cell? ⟨pb, 1, none⟩ = some (.int .i64 g) := (World.cell?_of_block (hbl pb pl hpv hpl)).trans p1
  have d0 := hP.c0
  have d1 := hP.fz 0
  have HZ := Lib.hid (And.intro p5 (And.intro d0 (And.intro d1 (HS.out _ ⟨_, _, _, hP.putNow g⟩))))
  clear hrun hP hbl H3 hpv p5 d0 d1 HS p1
  go_region_law (refine step_append_g rfl (.tmp 20) (.tmp 25) 25 rfl (by rfl) (by rfl) (HRUN.out _) ?_)
  all_goals
    clear s0 s1 HRUN c2 p0 pl l2
    obtain ⟨p5, d0, d1, hZ⟩ := HZ.out
    have HZ2 := Lib.hid hZ
    clear HZ hZ
    generalize W.setCell ⟨lb, 2, none⟩ (.slice Av nv cv) = w5 at *
    go_wp2_with fail
    go_ret
    exact ⟨rfl, HZ2.out⟩
end Go.Proofs.Ytobkepipmmkboaa
