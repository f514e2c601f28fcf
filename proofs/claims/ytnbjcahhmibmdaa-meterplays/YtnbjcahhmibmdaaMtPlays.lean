/- meter.Play answers as the reference does: the walk. -/
import Derived.Test.YtnbjcahhmibmdaaMt14
import Derived.Test.YtnbjcahhmibmdaaMtBoundM
namespace Go.Proofs.Ytnbjcahhmibmdaa
open Go.RowKit Go.Maps

set_option maxRecDepth 100000 in
set_option maxHeartbeats 8000000 in
theorem plays_bad {w : World} {A : Option Addr} {xs : List (Int × Int)} {n : Nat} (hP : ShotsIn w A xs) (hn : xs.length = n) (cap : Nat) (r b e : Int) (hrt : (Mt.full r b e).right = false) :
    Calls Try.prog 4 #[.int .i64 r, .int .i64 b, .int .i64 e, .slice A n cap] w fun e w' => e = .returned (.bool true) ∧ Below w.heap.size w w' := by
  obtain ⟨pl, hpl0⟩ : ∃ pl : List Int, pl = [] := ⟨_, rfl⟩
  obtain ⟨pb, hpb0⟩ : ∃ pb, pb = Mt.zero := ⟨_, rfl⟩
  obtain ⟨pe, hpe0⟩ : ∃ pe : Int, pe = 2 := ⟨_, rfl⟩
  have hpl : played r b e xs = (pl, pb, pe) := by rw [hpl0, hpb0, hpe0]; unfold played; rw [hrt]; rfl
  have HSH := Lib.hid (fun W (hW : Below w.heap.size w W) => hP.below hW)
  have HN := Lib.hid hn
  have hlen := hP.len
  have HPL : Hid (∀ W, Below w.heap.size w W → Calls Try.prog 13 #[.int .i64 r, .int .i64 b, .int .i64 e, .slice A n cap] W fun e w' => ∃ R cR, e = .returned (.tuple #[.slice R pl.length cR, .agg #[.int .i64 pb.rate, .int .i64 pb.burst, .int .i64 pb.exc, .int .i64 pb.fst, .int .i64 pb.snd, .int .i64 pb.tm], .int .i64 pe]) ∧ IntsIn w' R pl ∧ Below W.heap.size W w') := Lib.hid (fun W hW => by
    have := play_any (hP.below hW) cap r b e
    rw [hn, hpl] at this
    exact this.mono (fun e w' ⟨R, cR, h1, _, h3, h4⟩ => ⟨R, cR, h1, h3, h4⟩))
  have HIR : Hid (∀ W, Calls Try.prog 12 #[.agg #[.int .i64 r, .int .i64 b, .int .i64 e, .int .i64 b, .int .i64 e, .int .i64 0]] W fun e w' => e = .returned (.bool false) ∧ Below W.heap.size W w') := Lib.hid (fun W => by
    have := jRight_any (Mt.full r b e) W
    rw [hrt] at this
    exact this)
  rw [hn] at hlen
  clear hP hn hpl
  subst hpl0 hpe0
  have HPB := Lib.hid hpb0
  clear hrt hpb0
  dsimp only [List.length_nil] at HPL
  go_enter Try.func4, Try.ntmps4
  go_wp2_with fail
  refine (HPL.out _ (Below.refl _ _)).mono ?_
  rintro e1 m1 ⟨R, cR, rfl, hR, hb⟩
  have hl := laidM_at m1 pb
  have HX := Lib.hid (And.intro (hb.trans (hl.2.mono hb.size)) (And.intro (hR.below hl.2) (And.intro hl.1 (show w.heap.size ≤ m1.heap.size from hb.size))))
  clear hb hl hR HPL
  go_upto_region 2 with fail
  change Code.wp _ _ _ _ (laidM m1 pb)
  generalize laidM m1 pb = W0 at *
  generalize m1.heap.size = g10 at *
  have hl := laidM_at W0 (Mt.full r b e)
  have HQ : Hid (PI W0 (laidM W0 (Mt.full r b e)) (Mt.full r b e) (.slice none 0 0) []) := Lib.hid ⟨hl.2, hl.1, OwnI.nil _ _, by simp [laidM]⟩
  clear hl
  go_upto_region 3 with fail
  change Code.wp _ _ _ _ (laidM W0 (Mt.full r b e))
  generalize laidM W0 (Mt.full r b e) = m2 at *
  have hc := HQ.out.want.cells
  unfold Mt.full at hc
  dsimp only at hc
  obtain ⟨c0, c1, c2, c3, c4, c5⟩ := hc
  go_wp2_with fail
  refine (HIR.out _).mono ?_
  rintro e1 m5 ⟨rfl, hb⟩
  have HQL := Lib.hid (HQ.out.later hb)
  clear HQ hb HIR c0 c1 c2 c3 c4 c5
  have hpb0 := HPB.out
  subst hpb0
  clear HPB
  go_wp2_with fail
  go_loopg [13, 40] n (fun k f c wr => f = .int .i64 2 ∧ c = .int .i64 0 ∧ k = n ∧ wr = m5)
  case atStart => exact ⟨rfl, rfl, rfl, rfl⟩
  case round =>
    obtain ⟨rfl, rfl, hk, rfl⟩ := hrel
    cases n with
    | zero =>
      have HB := Lib.hid HQL.out.below
      clear HQL HSH HN
      have hz := (HX.out.2.2.1.below HB.out).cells
      unfold Mt.zero at hz
      dsimp only at hz
      obtain ⟨d0, d1, d2, d3, d4, d5⟩ := hz
      have HD := Lib.hid (HX.out.1.trans (HB.out.mono HX.out.1.size))
      clear HB HX
      go_wp2_with fail
      go_ret
      exact ⟨by simp, HD.out⟩
    | succ k =>
      obtain ⟨b0, off, ti, ni, rfl, hx, a0, a1, hbl⟩ := (HSH.out _ (HX.out.1.trans (HQL.out.below.mono HX.out.1.size))).next (i := 0) (by have := HN.out; omega)
      rw [Nat.zero_mul, Nat.add_zero] at a0 a1
      have i1 : (0 : Int) < ((k + 1 : Nat) : Int) := by omega
      have bo : Below wr.heap.size wr (wr.alloc (.cells #[.int .i64 ti, .int .i64 ni] 25)) := (Below.refl _ _).alloc (Nat.le_refl _) _
      have HB := Lib.hid (HQL.out.below.trans (bo.mono HQL.out.below.size))
      clear HQL HSH HN hx bo hbl hk
      go_upto_region 10 with fail
      clear a0 a1
      generalize wr.alloc (.cells #[.int .i64 ti, .int .i64 ni] 25) = m6 at *
      have hz := (HX.out.2.2.1.below HB.out).cells
      unfold Mt.zero at hz
      dsimp only at hz
      obtain ⟨d0, d1, d2, d3, d4, d5⟩ := hz
      have HD := Lib.hid (HX.out.1.trans (HB.out.mono HX.out.1.size))
      clear HB HX
      go_wp2_with fail
      go_ret
      exact ⟨by simp, HD.out⟩

set_option maxRecDepth 100000 in
set_option maxHeartbeats 8000000 in
theorem plays_good {w : World} {A : Option Addr} {xs : List (Int × Int)} {n : Nat} (hP : ShotsIn w A xs) (hn : xs.length = n) (cap : Nat) (r b e : Int) (hrt : (Mt.full r b e).right = true) :
    Calls Try.prog 4 #[.int .i64 r, .int .i64 b, .int .i64 e, .slice A n cap] w fun e w' => e = .returned (.bool true) ∧ Below w.heap.size w w' := by
  obtain ⟨pl, pb, pe, hpl⟩ : ∃ pl pb pe, played r b e xs = (pl, pb, pe) := ⟨_, _, _, rfl⟩
  have HGOOD : Hid (fine (Mt.full r b e) xs = true → pl = (run (Mt.full r b e) xs).1 ∧ pb = (run (Mt.full r b e) xs).2 ∧ pe = 0) := Lib.hid (fun h => by
    unfold played at hpl
    rw [hrt, h] at hpl
    simp only [if_true, Prod.mk.injEq] at hpl
    exact ⟨hpl.1.symm, hpl.2.1.symm, hpl.2.2.symm⟩)
  have HBAD : Hid (fine (Mt.full r b e) xs = false → pl = [] ∧ pb = Mt.zero ∧ pe = 2) := Lib.hid (fun h => by
    unfold played at hpl
    rw [hrt, h] at hpl
    simp only [if_true, Bool.false_eq_true, if_false, Prod.mk.injEq] at hpl
    exact ⟨hpl.1.symm, hpl.2.1.symm, hpl.2.2.symm⟩)
  have HOK := Lib.hid (Mt.right_iff.1 hrt)
  have HFN := Lib.hid (fun i x (h : xs[i]? = some x) hf => fine_next (b := (Mt.full r b e)) h hf)
  have HST := Lib.hid (fun i (h : fine (Mt.full r b e) (xs.take i) = false) => fine_stop h)
  have HSH := Lib.hid (fun W (hW : Below w.heap.size w W) => hP.below hW)
  have HN := Lib.hid hn
  have hlen := hP.len
  have HPL : Hid (∀ W, Below w.heap.size w W → Calls Try.prog 13 #[.int .i64 r, .int .i64 b, .int .i64 e, .slice A n cap] W fun e w' => ∃ R cR, e = .returned (.tuple #[.slice R pl.length cR, .agg #[.int .i64 pb.rate, .int .i64 pb.burst, .int .i64 pb.exc, .int .i64 pb.fst, .int .i64 pb.snd, .int .i64 pb.tm], .int .i64 pe]) ∧ IntsIn w' R pl ∧ Below W.heap.size W w') := Lib.hid (fun W hW => by
    have := play_any (hP.below hW) cap r b e
    rw [hn, hpl] at this
    exact this.mono (fun e w' ⟨R, cR, h1, _, h3, h4⟩ => ⟨R, cR, h1, h3, h4⟩))
  have HIR : Hid (∀ W, Calls Try.prog 12 #[.agg #[.int .i64 r, .int .i64 b, .int .i64 e, .int .i64 b, .int .i64 e, .int .i64 0]] W fun e w' => e = .returned (.bool true) ∧ Below W.heap.size W w') := Lib.hid (fun W => by
    have := jRight_any (Mt.full r b e) W
    rw [hrt] at this
    exact this)
  rw [hn] at hlen
  clear hP hn hpl
  obtain ⟨pn, hpn⟩ : ∃ pn, pl.length = pn := ⟨_, rfl⟩
  rw [hpn] at HPL
  have HPN := Lib.hid hpn
  clear hrt hpn
  go_enter Try.func4, Try.ntmps4
  go_wp2_with fail
  refine (HPL.out _ (Below.refl _ _)).mono ?_
  rintro e1 m1 ⟨R, cR, rfl, hR, hb⟩
  have hl := laidM_at m1 pb
  have HX := Lib.hid (And.intro (hb.trans (hl.2.mono hb.size)) (And.intro (hR.below hl.2) (And.intro hl.1 (show w.heap.size ≤ m1.heap.size from hb.size))))
  clear hb hl hR HPL
  go_upto_region 2 with fail
  change Code.wp _ _ _ _ (laidM m1 pb)
  generalize laidM m1 pb = W0 at *
  generalize m1.heap.size = g10 at *
  have hl := laidM_at W0 (Mt.full r b e)
  have HQ : Hid (PI W0 (laidM W0 (Mt.full r b e)) (Mt.full r b e) (.slice none 0 0) []) := Lib.hid ⟨hl.2, hl.1, OwnI.nil _ _, by simp [laidM]⟩
  clear hl
  go_upto_region 3 with fail
  change Code.wp _ _ _ _ (laidM W0 (Mt.full r b e))
  generalize laidM W0 (Mt.full r b e) = m2 at *
  have hc := HQ.out.want.cells
  unfold Mt.full at hc
  dsimp only at hc
  obtain ⟨c0, c1, c2, c3, c4, c5⟩ := hc
  go_wp2_with fail
  refine (HIR.out _).mono ?_
  rintro e1 m5 ⟨rfl, hb⟩
  have HQL := Lib.hid (HQ.out.later hb)
  clear HQ hb HIR c0 c1 c2 c3 c4 c5
  have HL0 : Hid (PI W0 m5 (run (Mt.full r b e) (xs.take 0)).2 (.slice none 0 0) (run (Mt.full r b e) (xs.take 0)).1) := Lib.hid HQL.out
  clear HQL
  generalize (Mt.full r b e) = B0 at *
  go_wp2_with fail
  go_loopg [13, 14, 40] n (fun k f v cc wr => ∃ (i : Nat) (er : Int) (s : List Int × Mt), cc = .int .i64 (i : Int) ∧ i + k = n ∧ f = .int .i64 er ∧ s.1.length = i ∧ Hid (PI W0 wr s.2 v s.1) ∧ Hid ((er = 0 → fine B0 (xs.take i) = true ∧ s = run B0 (xs.take i)) ∧ (er ≠ 0 → er = 2 ∧ fine B0 xs = false)))
  case atStart => exact ⟨0, 0, run B0 (xs.take 0), rfl, by omega, rfl, rfl, HL0, Lib.hid ⟨fun _ => ⟨rfl, rfl⟩, fun h => absurd rfl h⟩⟩
  case round =>
    clear HL0
    obtain ⟨i, er, s, rfl, hik, rfl, hsl, HPI, HRE⟩ := hrel
    by_cases he : er = 0
    · subst he
      obtain ⟨hfi, hs⟩ := HRE.out.1 rfl
      clear HRE
      cases gk with
      | zero =>
        obtain rfl : i = n := by omega
        have hx : xs.take i = xs := List.take_of_length_le (by have := HN.out; omega)
        rw [hx] at hfi hs
        obtain ⟨q1, q2, q3⟩ := HGOOD.out hfi
        rw [← hs] at q1 q2
        subst q1 q2 q3
        obtain rfl : pn = i := by rw [← HPN.out, hsl]
        obtain ⟨A', cp, rfl, hw2⟩ := HPI.out.own.form (by omega)
        rw [hsl]
        have hw1 := HX.out.2.1.below HPI.out.below
        have HE : Hid (Calls Try.prog 14 #[.slice R pn cR, .slice A' pn cp] wr fun e w' => e = .returned (.bool true) ∧ ∃ k, w' = wr.drewN k) := Lib.hid (by
          have := equal_any hw1 hw2 cR cp
          rw [hsl] at this
          exact this.mono (fun e w' ⟨h1, h2⟩ => ⟨by rw [h1]; simp, h2⟩))
        have HD := Lib.hid (HX.out.1.trans (HPI.out.below.mono HX.out.1.size))
        have HM := Lib.hid (And.intro (HX.out.2.2.1.below HPI.out.below) HPI.out.want)
        clear hfi hs hx hw1 hw2 HBAD HGOOD HPN HX HPI hik hsl HFN HST HOK HSH HN
        go_wp2_with fail
        refine HE.out.mono ?_
        rintro e1 w9 ⟨rfl, k, rfl⟩
        have HM2 := Lib.hid (And.intro (HM.out.1.drewN k) (HM.out.2.drewN k))
        have HD2 := Lib.hid (below_drewN HD.out k)
        clear HM HD HE
        generalize wr.drewN k = w8 at *
        obtain ⟨c0, c1, c2, c3, c4, c5⟩ := HM2.out.1.cells
        obtain ⟨d0, d1, d2, d3, d4, d5⟩ := HM2.out.2.cells
        go_wp2_with fail
        go_ret
        exact ⟨by simp, HD2.out⟩
      | succ k =>
        have i1 : (i : Int) < (n : Int) := by omega
        obtain ⟨b0, off, ti, ni, rfl, hx, a0, a1, _⟩ := (HSH.out _ (HX.out.1.trans (HPI.out.below.mono HX.out.1.size))).next (i := i) (by have := HN.out; omega)
        have hT := colour_ok (fine_ok HOK.out hfi) ti ni
        have hR := run_next (b := B0) hx
        have hF := HFN.out i _ hx hfi
        rw [← hs] at hT hR hF
        have HIT := Lib.hid (fun W => jColour_any s.2 ti ni 1 W)
        unfold shotAct at hR
        dsimp only at hR hF
        have hT2 : (s.2.colour ti ni 1).2.2 ≠ 0 → (s.2.colour ti ni 1).2.2 = 2 := fun h => by
          rcases hT with ⟨_, hT, _⟩ | hT
          · rw [hT] at h; exact absurd rfl h
          · rw [hT]
        clear hT
        generalize s.2.colour ti ni 1 = X at *
        obtain ⟨c, u, er⟩ := X
        dsimp only at hR hF hT2
        have HREL : Hid ((er = 0 → fine B0 (xs.take (i + 1)) = true ∧ (s.1 ++ [u], c) = run B0 (xs.take (i + 1))) ∧ (er ≠ 0 → er = 2 ∧ fine B0 xs = false)) := Lib.hid ⟨fun h => ⟨by rw [hF]; exact decide_eq_true h, hR.symm⟩, fun h => ⟨hT2 h, HST.out (i + 1) (by rw [hF]; exact decide_eq_false h)⟩⟩
        have bo : Below wr.heap.size wr (wr.alloc (.cells #[.int .i64 ti, .int .i64 ni] 25)) := (Below.refl _ _).alloc (Nat.le_refl _) _
        have hsh : ShotAt (wr.alloc (.cells #[.int .i64 ti, .int .i64 ni] 25)) wr.heap.size ti ni := heap_alloc_new wr _
        have HPJ := Lib.hid (And.intro (HPI.out.later bo) hsh)
        clear hx hT2 hR hF hfi hs bo hsh HPI
        unfold Told at HIT
        unfold Mt.cells at HIT
        dsimp only at HIT
        go_upto_region 10 with fail
        clear a0 a1
        generalize wr.alloc (.cells #[.int .i64 ti, .int .i64 ni] 25) = m6 at *
        generalize wr.heap.size = gs at *
        obtain ⟨⟨c0, c1, c2, c3, c4, c5⟩, s0, s1⟩ := And.intro HPJ.out.1.want.cells HPJ.out.2.cells
        go_wp2_with fail
        refine (HIT.out _).mono ?_
        rintro e1 m7 ⟨rfl, hb⟩
        have hl := laidM_at m7 c
        have hpi := HPJ.out.1.later hb
        have HPK := Lib.hid (And.intro (hpi.later hl.2) (And.intro hl.1 (And.intro (show W0.heap.size < m7.heap.size by have := hpi.size; omega) (fun r hr => show m7.heap.size ≠ r by have := (World.ownsRow.lt hpi.own r hr).2; omega))))
        clear hb hl hpi HPJ HIT c0 c1 c2 c3 c4 c5 s0 s1
        go_upto_region 12 with fail
        change Code.wp _ _ _ _ (laidM m7 c)
        generalize laidM m7 c = m8 at *
        generalize m7.heap.size = g18 at *
        have hsl' : (s.1 ++ [u]).length = i + 1 := by simp [hsl]
        have HP2 := Lib.hid (HPK.out.1.later (w' := m8.drew) (below_drewN (Below.refl _ _) 1))
        have HC2 : Hid (MtAt m8.drew g18 c) := Lib.hid HPK.out.2.1
        obtain ⟨v', W, hrun, hq, hgc, hpi⟩ := HP2.out.put c u (by rw [hsl]; omega) HC2.out HPK.out.2.2.2
        have HRUN := Lib.hid hrun
        have HQ3 := Lib.hid (And.intro hq (And.intro hgc hpi))
        have HGW := Lib.hid HPK.out.2.2.1
        clear hrun hq hgc hpi HP2 HPK
        refine wp_region_held_drew (S := (fun W : World => W.cell? ⟨g18, 0, none⟩ = some (.int .i64 c.rate) ∧ W.cell? ⟨g18, 1, none⟩ = some (.int .i64 c.burst) ∧ W.cell? ⟨g18, 2, none⟩ = some (.int .i64 c.exc) ∧ W.cell? ⟨g18, 3, none⟩ = some (.int .i64 c.fst) ∧ W.cell? ⟨g18, 4, none⟩ = some (.int .i64 c.snd) ∧ W.cell? ⟨g18, 5, none⟩ = some (.int .i64 c.tm))) (by kernel_rfl) (HC2.out.cells) (fun hHeld => ?_)
        generalize m8.drew = m9 at *
        refine wpAnyH_take (i := 0) (v := ?_) (by simp only [List.getElem?_toArray, List.getElem?_cons_zero] <;> rfl) (by kernel_rfl) (by kernel_rfl) (by kernel_rfl) (by exact fun _ _ _ h => h) (Or.inl ⟨by rfl, ?_⟩) hHeld ?_
        rotate_left
        · intro w hSw; (try dsimp only at hSw); go_simp; (try with_reducible rfl)
        (try simp only [Act.put, List.setIfInBounds_toArray, List.set_cons_zero, List.set_cons_succ])
        refine wpAnyH_take (i := 1) (v := ?_) (by simp only [List.getElem?_toArray, List.getElem?_cons_succ, List.getElem?_cons_zero] <;> rfl) (by kernel_rfl) (by kernel_rfl) (by kernel_rfl) (by exact fun _ _ _ h => h) (Or.inl ⟨by rfl, ?_⟩) hHeld ?_
        rotate_left
        · intro w hSw; (try dsimp only at hSw); go_simp; (try with_reducible rfl)
        (try simp only [Act.put, List.setIfInBounds_toArray, List.set_cons_zero, List.set_cons_succ])
        refine wpAnyH_take (i := 2) (v := ?_) (by simp only [List.getElem?_toArray, List.getElem?_cons_succ, List.getElem?_cons_zero] <;> rfl) (by kernel_rfl) (by kernel_rfl) (by kernel_rfl) (by exact fun _ _ _ h => h) (Or.inl ⟨by rfl, ?_⟩) hHeld ?_
        rotate_left
        · intro w hSw; (try dsimp only at hSw); go_simp; (try with_reducible rfl)
        (try simp only [Act.put, List.setIfInBounds_toArray, List.set_cons_zero, List.set_cons_succ])
        refine wpAnyH_take (i := 5) (v := ?_) (by simp only [List.getElem?_toArray, List.getElem?_cons_succ, List.getElem?_cons_zero] <;> rfl) (by kernel_rfl) (by kernel_rfl) (by kernel_rfl) (by exact fun _ _ _ h => h) (Or.inl ⟨by rfl, ?_⟩) hHeld ?_
        rotate_left
        · intro w hSw; (try dsimp only at hSw); go_simp; (try with_reducible rfl)
        (try simp only [Act.put, List.setIfInBounds_toArray, List.set_cons_zero, List.set_cons_succ])
        refine wpAnyH_ready (rs := [3]) (by kernel_rfl) (by simp) ?_
        refine AllReadyH.cons (by simp only [List.getElem?_toArray, List.getElem?_cons_succ, List.getElem?_cons_zero] <;> rfl) (fun K hK => ?_) AllReadyH.nil
        go_simp
        refine hK.out _ _ ?_ (fun hHeld => ?_)
        · exact MtAt.cells (b := c) ((Below.heap_alloc m9 _ g18 HC2.out.lt).trans HC2.out)
        clear hK K
        (try simp only [Act.put, List.setIfInBounds_toArray, List.set_cons_zero, List.set_cons_succ])
        refine wpAnyH_ready (rs := [4]) (by kernel_rfl) (by simp) ?_
        refine AllReadyH.cons (by simp only [List.getElem?_toArray, List.getElem?_cons_succ, List.getElem?_cons_zero] <;> rfl) (fun K hK => ?_) AllReadyH.nil
        refine step_append_eq rfl (.tmp 54) (.tmp 56) 32 rfl (by rfl) (by rfl) (HRUN.out _) ?_
        refine hK.out _ _ ?_ (fun hHeld => ?_)
        · exact MtAt.cells (b := c) HQ3.out.2.1
        clear hK K
        (try simp only [Act.put, List.setIfInBounds_toArray, List.set_cons_zero, List.set_cons_succ])
        refine wpAnyH_ready (rs := [6]) (by kernel_rfl) (by simp) ?_
        refine AllReadyH.cons (by simp only [List.getElem?_toArray, List.getElem?_cons_succ, List.getElem?_cons_zero] <;> rfl) (fun K hK => ?_) AllReadyH.nil
        rw [if_pos (by rfl)]
        refine wp_store_mt (.tmp 12) (.tmp 53) rfl W0.heap.size c s.2 rfl rfl HQ3.out.1 ?_
        refine hK.out _ _ ?_ (fun hHeld => ?_)
        · exact MtAt.cells (b := c) ((setRow_other W _ g18 _ (by have := HGW.out; omega)).trans HQ3.out.2.1)
        clear hK K
        (try simp only [Act.put])
        refine wpAnyH_take (i := 7) (v := ?_) (by simp only [List.getElem?_toArray, List.getElem?_cons_succ, List.getElem?_cons_zero] <;> rfl) (by kernel_rfl) (by kernel_rfl) (by kernel_rfl) (by exact fun _ _ _ h => h) (Or.inl ⟨by rfl, ?_⟩) hHeld ?_
        rotate_left
        · intro w hSw; (try dsimp only at hSw); go_simp; (try with_reducible rfl)
        (try simp only [Act.put, List.setIfInBounds_toArray, List.set_cons_zero, List.set_cons_succ])
        refine wpAnyH_take (i := 8) (v := ?_) (by simp only [List.getElem?_toArray, List.getElem?_cons_succ, List.getElem?_cons_zero] <;> rfl) (by kernel_rfl) (by kernel_rfl) (by kernel_rfl) (by exact fun _ _ _ h => h) (Or.inl ⟨by rfl, ?_⟩) hHeld ?_
        rotate_left
        · intro w hSw; (try dsimp only at hSw); go_simp; (try with_reducible rfl)
        (try simp only [Act.put, List.setIfInBounds_toArray, List.set_cons_zero, List.set_cons_succ])
        refine wpAnyH_done (by kernel_rfl) ?_ _
        have HP4 := Lib.hid HQ3.out.2.2
        clear HQ3 HRUN HC2 HGW hHeld
        generalize W.setRow W0.heap.size c.cells = mA at *
        go_wp2_with fail
        go_roundg k
        case measure => omega
        case rel => exact ⟨i + 1, er, (s.1 ++ [u], c), by go_num, by omega, rfl, hsl', HP4, HREL⟩
    · have hff := (HRE.out.2 he).2
      obtain rfl := (HRE.out.2 he).1
      clear HRE he
      cases gk with
      | zero =>
        obtain rfl : i = n := by omega
        have HB := Lib.hid HPI.out.below
        clear HPI HSH HN hsl hik
        have hz := (HX.out.2.2.1.below HB.out).cells
        have HD := Lib.hid (HX.out.1.trans (HB.out.mono HX.out.1.size))
        obtain ⟨q1, q2, q3⟩ := HBAD.out hff
        subst q1 q2 q3
        obtain rfl : pn = 0 := HPN.out.symm
        unfold Mt.zero at hz
        dsimp only at hz
        obtain ⟨d0, d1, d2, d3, d4, d5⟩ := hz
        clear HBAD HGOOD HPN HX HB hff HFN HST HOK
        go_wp2_with fail
        go_ret
        exact ⟨by simp, HD.out⟩
      | succ k =>
        have i1 : (i : Int) < (n : Int) := by omega
        obtain ⟨b0, off, ti, ni, rfl, hx, a0, a1, _⟩ := (HSH.out _ (HX.out.1.trans (HPI.out.below.mono HX.out.1.size))).next (i := i) (by have := HN.out; omega)
        have bo : Below wr.heap.size wr (wr.alloc (.cells #[.int .i64 ti, .int .i64 ni] 25)) := (Below.refl _ _).alloc (Nat.le_refl _) _
        have HB := Lib.hid (HPI.out.below.trans (bo.mono HPI.out.below.size))
        clear hx bo HPI HSH HN hsl hik
        go_upto_region 10 with fail
        clear a0 a1
        generalize wr.alloc (.cells #[.int .i64 ti, .int .i64 ni] 25) = m6 at *
        have hz := (HX.out.2.2.1.below HB.out).cells
        have HD := Lib.hid (HX.out.1.trans (HB.out.mono HX.out.1.size))
        obtain ⟨q1, q2, q3⟩ := HBAD.out hff
        subst q1 q2 q3
        obtain rfl : pn = 0 := HPN.out.symm
        unfold Mt.zero at hz
        dsimp only at hz
        obtain ⟨d0, d1, d2, d3, d4, d5⟩ := hz
        clear HBAD HGOOD HPN HX HB hff HFN HST HOK
        go_wp2_with fail
        go_ret
        exact ⟨by simp, HD.out⟩

theorem plays_law {w : World} {A : Option Addr} {xs : List (Int × Int)} {n : Nat} (hP : ShotsIn w A xs) (hn : xs.length = n) (cap : Nat) (r b e : Int) :
    Calls Try.prog 4 #[.int .i64 r, .int .i64 b, .int .i64 e, .slice A n cap] w fun e w' => e = .returned (.bool true) ∧ Below w.heap.size w w' := by
  cases hrt : (Mt.full r b e).right with
  | false => exact plays_bad hP hn cap r b e hrt
  | true => exact plays_good hP hn cap r b e hrt
end Go.Proofs.Ytnbjcahhmibmdaa
