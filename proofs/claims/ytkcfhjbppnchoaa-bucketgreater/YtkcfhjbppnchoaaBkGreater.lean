/- BucketGreater: the walk. -/
import Derived.Test.YtkcfhjbppnchoaaBkGreaterM
namespace Go.Proofs.Ytkcfhjbppnchoaa
open Go.RowKit Go.Maps

/-- Two shots' boxes. -/
structure Two (w W : World) (t1 n1 t2 n2 : Int) : Prop where
  below : Below w.heap.size w W
  s1 : ShotAt W w.heap.size t1 n1
  s2 : ShotAt W (w.heap.size + 1) t2 n2
def boxesT (w : World) (t1 n1 t2 n2 : Int) : World := (w.alloc (.cells #[.int .i64 t1, .int .i64 n1] 36)).alloc (.cells #[.int .i64 t2, .int .i64 n2] 36)
theorem boxT (w : World) (t1 n1 t2 n2 : Int) : Two w (boxesT w t1 n1 t2 n2) t1 n1 t2 n2 := by
  have b1 : Below w.heap.size w (w.alloc (.cells #[.int .i64 t1, .int .i64 n1] 36)) := (Below.refl _ _).alloc (Nat.le_refl _) _
  refine ⟨b1.alloc b1.size _, ?_, ?_⟩
  · unfold ShotAt boxesT
    rw [Below.heap_alloc _ _ _ (by simp)]
    exact heap_alloc_new w _
  · have : w.heap.size + 1 = (w.alloc (.cells #[.int .i64 t1, .int .i64 n1] 36)).heap.size := by simp
    unfold ShotAt
    rw [this]
    exact heap_alloc_new _ _
theorem Two.later {w W W' : World} {t1 n1 t2 n2 : Int} (h : Two w W t1 n1 t2 n2) (hb : Below W.heap.size W W') : Two w W' t1 n1 t2 n2 := ⟨h.below.trans (hb.mono h.below.size), h.s1.below hb, h.s2.below hb⟩
def slT (w : World) (t1 n1 t2 n2 : Int) : World := w.alloc (.cells #[.int .i64 t1, .int .i64 n1, .int .i64 t2, .int .i64 n2] 36)
theorem slT_in (w : World) (t1 n1 t2 n2 : Int) : ShotsIn (slT w t1 n1 t2 n2) (some ⟨w.heap.size, 0, none⟩) [(t1, n1), (t2, n2)] ∧ Below w.heap.size w (slT w t1 n1 t2 n2) := by
  refine ⟨⟨fun _ => ⟨w.heap.size, 0, rfl, by simp [slT], fun j o ho => ?_⟩, by simp⟩, (Below.refl _ _).alloc (Nat.le_refl _) _⟩
  have hj : j < 2 := (List.getElem?_eq_some_iff.1 ho).1
  have hc := fun i => cell_of_row _ _ i _ _ _ (heap_alloc_new w (.cells #[.int .i64 t1, .int .i64 n1, .int .i64 t2, .int .i64 n2] 36))
  rcases (by omega : j = 0 ∨ j = 1) with rfl | rfl <;>
    (simp only [List.getElem?_cons_zero, List.getElem?_cons_succ, Option.some.injEq] at ho; subst ho; exact ⟨hc _, hc _⟩)

set_option maxRecDepth 100000 in
set_option maxHeartbeats 8000000 in
theorem greater_law (num den burst more faster t1 n1 t2 n2 : Int) (w : World) :
    Calls Try.prog 9 #[.int .i64 num, .int .i64 den, .int .i64 burst, .int .i64 more, .int .i64 faster, .agg #[.int .i64 t1, .int .i64 n1], .agg #[.int .i64 t2, .int .i64 n2]] w fun e w' => e = .returned (.bool true) ∧ Below w.heap.size w w' := by
  have HX := Lib.hid (boxT w t1 n1 t2 n2)
  have HAL := Lib.hid (fun W => alive9_any W)
  obtain ⟨⟨c0, c1⟩, d0, d1⟩ := And.intro HX.out.s1.cells HX.out.s2.cells
  by_cases hout : more < 0 ∨ (¬ more < 0 ∧ faster < 0) ∨ (¬ more < 0 ∧ ¬ faster < 0 ∧ 1000 < more) ∨ (¬ more < 0 ∧ ¬ faster < 0 ∧ ¬ 1000 < more ∧ 1000 < faster)
  · rcases hout with k1 | ⟨k1, k2⟩ | ⟨k1, k2, k3⟩ | ⟨k1, k2, k3, k4⟩
    all_goals
      (try have k1' : decide (more < 0) = false := decide_eq_false k1)
      (try have k2' : decide (faster < 0) = false := decide_eq_false k2)
      (try have k3' : decide (1000 < more) = false := decide_eq_false k3)
      go_enter Try.func9, Try.ntmps9
      go_upto_region 1 with fail
      change Code.wp _ _ _ _ (boxesT w t1 n1 t2 n2)
      generalize boxesT w t1 n1 t2 n2 = m at *
      go_wp2_with fail
      refine (HAL.out _).mono ?_
      rintro e m1 ⟨rfl, hb⟩
      have HX1 := Lib.hid (HX.out.later hb)
      clear HX hb HAL c0 c1 d0 d1
      go_wp2_with fail
      go_ret
      exact ⟨by simp, HX1.out.below⟩
  · have m0 : 0 ≤ more := by omega
    have f0 : 0 ≤ faster := by omega
    have k1' : decide (more < 0) = false := decide_eq_false (by omega)
    have k2' : decide (faster < 0) = false := decide_eq_false (by omega)
    have k3' : decide (1000 < more) = false := decide_eq_false (by omega)
    have k4' : decide (1000 < faster) = false := decide_eq_false (by omega)
    obtain ⟨N2, hN2⟩ : ∃ N2, wrap64 (num + faster) = N2 := ⟨_, rfl⟩
    obtain ⟨U2, hU2⟩ : ∃ U2, wrap64 (burst + more) = U2 := ⟨_, rfl⟩
    have HN : Hid (rate num den burst = true → N2 = num + faster ∧ U2 = burst + more) := Lib.hid (fun h => by
      have hok := full_ok h
      have q0 : 0 ≤ num := hok.n0
      have q1 : num ≤ 1048576 := hok.n1
      have q2 : 0 ≤ burst := hok.u0
      have q3 : burst ≤ 1048576 := hok.u1
      exact ⟨by rw [← hN2]; exact w64 (by omega) (by omega), by rw [← hU2]; exact w64 (by omega) (by omega)⟩)
    have HP : Hid (∀ W, Calls Try.prog 19 #[.int .i64 num, .int .i64 den, .int .i64 burst, .slice (some ⟨W.heap.size, 0, none⟩) 2 2] (slT W t1 n1 t2 n2) (Played (slT W t1 n1 t2 n2) (played num den burst [(t1, n1), (t2, n2)]))) := Lib.hid (fun W => play_any (slT_in W t1 n1 t2 n2).1 2 num den burst)
    have HQ : Hid (∀ W, Calls Try.prog 19 #[.int .i64 N2, .int .i64 den, .int .i64 U2, .slice (some ⟨W.heap.size, 0, none⟩) 2 2] (slT W t1 n1 t2 n2) (Played (slT W t1 n1 t2 n2) (played N2 den U2 [(t1, n1), (t2, n2)]))) := Lib.hid (fun W => play_any (slT_in W t1 n1 t2 n2).1 2 N2 den U2)
    have HA : Hid ((played num den burst [(t1, n1), (t2, n2)]).2.2 = 0 → (played N2 den U2 [(t1, n1), (t2, n2)]).2.2 = 0 → ∃ a0 a1 c b0 b1 c', played num den burst [(t1, n1), (t2, n2)] = ([a0, a1], c, 0) ∧ played N2 den U2 [(t1, n1), (t2, n2)] = ([b0, b1], c', 0) ∧ (a0 = b0 → a1 = true → b1 = true)) := Lib.hid (fun h1 h2 => by
      obtain ⟨a0, a1, c, ha, hr, _⟩ := two_shots h1
      obtain ⟨b0, b1, c', hb, _⟩ := two_shots h2
      refine ⟨a0, a1, c, b0, b1, c', ha, hb, fun h3 h4 => ?_⟩
      obtain ⟨e1, e2⟩ := HN.out hr
      subst e1 e2
      exact greater_all m0 f0 ha hb h3 h4)
    clear hout m0 f0 HN
    generalize played num den burst [(t1, n1), (t2, n2)] = P1 at *
    generalize played N2 den U2 [(t1, n1), (t2, n2)] = P2 at *
    obtain ⟨l1, b1, e1⟩ := P1
    obtain ⟨l2, b2, e2⟩ := P2
    dsimp only at HA
    unfold Played at HP HQ
    unfold Bk.cells at HP HQ
    dsimp only at HP HQ
    go_enter Try.func9, Try.ntmps9
    go_upto_region 1 with fail
    change Code.wp _ _ _ _ (boxesT w t1 n1 t2 n2)
    generalize boxesT w t1 n1 t2 n2 = m at *
    go_wp2_with fail
    refine (HAL.out _).mono ?_
    rintro e m1 ⟨rfl, hb⟩
    have HX1 := Lib.hid (HX.out.later hb)
    clear HX hb HAL c0 c1 d0 d1
    obtain ⟨⟨c0, c1⟩, d0, d1⟩ := And.intro HX1.out.s1.cells HX1.out.s2.cells
    go_wp2_with fail
    change Calls _ _ _ (slT m1 t1 n1 t2 n2) _
    refine (HP.out _).mono ?_
    rintro e m2 ⟨R1, cR1, rfl, _, hR1, hb⟩
    have hl := laidB_at m2 b1
    have HX2 := Lib.hid (And.intro (((HX1.out.later (slT_in m1 t1 n1 t2 n2).2).later hb).later hl.2) (hR1.below hl.2))
    clear HX1 hb hl hR1 HP c0 c1 d0 d1
    go_upto_region 6 with fail
    change Code.wp _ _ _ _ (laidB m2 b1)
    generalize laidB m2 b1 = m3 at *
    generalize m2.heap.size = g1 at *
    obtain ⟨⟨c0, c1⟩, d0, d1⟩ := And.intro HX2.out.1.s1.cells HX2.out.1.s2.cells
    go_wp2_with fail
    change Calls _ _ _ (slT m3 t1 n1 t2 n2) _
    refine (HQ.out _).mono ?_
    rintro e m4 ⟨R2, cR2, rfl, _, hR2, hb⟩
    have hl := laidB_at m4 b2
    have HX3 := Lib.hid (And.intro (((HX2.out.1.later (slT_in m3 t1 n1 t2 n2).2).later hb).later hl.2) (And.intro (((HX2.out.2.below (slT_in m3 t1 n1 t2 n2).2).below hb).below hl.2) (hR2.below hl.2)))
    clear HX2 hb hl hR2 HQ c0 c1 d0 d1
    go_upto_region 7 with fail
    change Code.wp _ _ _ _ (laidB m4 b2)
    generalize laidB m4 b2 = m5 at *
    generalize m4.heap.size = g2 at *
    clear k1' k2' k3' k4' hN2 hU2
    by_cases q1 : e1 = 0
    · by_cases q2 : e2 = 0
      · obtain ⟨a0, a1, c, x0, x1, c', hA, hB, hC⟩ := HA.out q1 q2
        injection hA with hA1 hA2
        injection hB with hB1 hB2
        subst q1 q2 hA1 hB1
        have HC := Lib.hid hC
        obtain ⟨r1, o1, y1, rfl, hy1, p1, _⟩ := HX3.out.2.1.next (i := 0) (by simp)
        obtain ⟨r1', o1', y1', hr1, hy1', p1', _⟩ := HX3.out.2.1.next (i := 1) (by simp)
        obtain ⟨r2, o2, y2, rfl, hy2, p2, _⟩ := HX3.out.2.2.next (i := 0) (by simp)
        obtain ⟨r2', o2', y2', hr2, hy2', p2', _⟩ := HX3.out.2.2.next (i := 1) (by simp)
        simp only [Option.some.injEq, Addr.mk.injEq, and_true] at hr1 hr2
        obtain ⟨rfl, rfl⟩ := hr1
        obtain ⟨rfl, rfl⟩ := hr2
        simp only [List.getElem?_cons_zero, List.getElem?_cons_succ, Option.some.injEq] at hy1 hy1' hy2 hy2'
        subst hy1 hy1' hy2 hy2'
        have HB := Lib.hid HX3.out.1.below
        clear hA2 hB2 hC HA HX3
        rw [Nat.add_zero] at p1 p2
        simp only [List.length_cons, List.length_nil, Nat.zero_add]
        by_cases h0 : a0 = x0
        · subst h0
          cases a1 with
          | false =>
            clear HC
            go_quiet (fail)
            have HD := Lib.hid (below_drewN HB.out nq)
            go_wp2_with fail
            go_ret
            exact ⟨by simp, HD.out⟩
          | true =>
            have hx1 := HC.out rfl rfl
            subst hx1
            clear HC
            go_quiet (fail)
            have HD := Lib.hid (below_drewN HB.out nq)
            go_wp2_with fail
            go_ret
            exact ⟨by simp, HD.out⟩
        · have HD := Lib.hid (fun nq => below_drewN HB.out nq)
          clear HC HB
          cases a0 with
          | false =>
            cases x0 with
            | false => exact absurd rfl h0
            | true =>
              clear h0
              go_quiet (fail)
              go_wp2_with fail
              go_ret
              exact ⟨by simp, HD.out nq⟩
          | true =>
            cases x0 with
            | true => exact absurd rfl h0
            | false =>
              clear h0
              go_quiet (fail)
              go_wp2_with fail
              go_ret
              exact ⟨by simp, HD.out nq⟩
      · subst q1
        have q2' : (e2 != 0) = true := by simpa using q2
        clear q2 HA
        have HB := Lib.hid HX3.out.1.below
        clear HX3
        generalize l1.length = len1 at *
        generalize l2.length = len2 at *
        go_quiet (fail)
        have HD := Lib.hid (below_drewN HB.out nq)
        go_wp2_with fail
        go_ret
        exact ⟨by simp, HD.out⟩
    · have q1' : (e1 != 0) = true := by simpa using q1
      clear q1 HA
      have HB := Lib.hid HX3.out.1.below
      clear HX3
      generalize l1.length = len1 at *
      generalize l2.length = len2 at *
      go_quiet (fail)
      have HD := Lib.hid (below_drewN HB.out nq)
      go_wp2_with fail
      go_ret
      exact ⟨by simp, HD.out⟩
end Go.Proofs.Ytkcfhjbppnchoaa
