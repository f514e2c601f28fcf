/- bucket.Play answers as the reference does: the walk. -/
import Derived.Test.YtkcfhjbppnchoaaBk14
import Derived.Test.YtkcfhjbppnchoaaBkFills
namespace Go.Proofs.Ytkcfhjbppnchoaa
open Go.RowKit Go.Maps

set_option maxRecDepth 100000 in
set_option maxHeartbeats 8000000 in
theorem plays_norate {w : World} {A : Option Addr} {xs : List (Int × Int)} {n : Nat} (hP : ShotsIn w A xs) (hn : xs.length = n) (cap : Nat) (num den burst : Int) (hrt : rate num den burst = false) :
    Calls Try.prog 5 #[.int .i64 num, .int .i64 den, .int .i64 burst, .slice A n cap] w fun e w' => e = .returned (.bool true) ∧ Below w.heap.size w w' := by
  obtain ⟨pl, hpl0⟩ : ∃ pl : List Bool, pl = [] := ⟨_, rfl⟩
  obtain ⟨pb, hpb0⟩ : ∃ pb, pb = Bk.zero := ⟨_, rfl⟩
  obtain ⟨pe, hpe0⟩ : ∃ pe : Int, pe = 2 := ⟨_, rfl⟩
  have hpl : played num den burst xs = (pl, pb, pe) := by rw [hpl0, hpb0, hpe0]; unfold played; rw [hrt]; rfl
  have HSH := Lib.hid (fun W (hW : Below w.heap.size w W) => hP.below hW)
  have HN := Lib.hid hn
  have hlen := hP.len
  have HPL : Hid (∀ W, Below w.heap.size w W → Calls Try.prog 19 #[.int .i64 num, .int .i64 den, .int .i64 burst, .slice A n cap] W fun e w' => ∃ R cR, e = .returned (.tuple #[.slice R pl.length cR, .agg #[.int .i64 pb.num, .int .i64 pb.den, .int .i64 pb.burst, .int .i64 pb.lev, .int .i64 pb.tm], .int .i64 pe]) ∧ WordsIn w' R pl ∧ Below W.heap.size W w') := Lib.hid (fun W hW => by
    have := play_any (hP.below hW) cap num den burst
    rw [hn, hpl] at this
    exact this.mono (fun e w' ⟨R, cR, h1, _, h3, h4⟩ => ⟨R, cR, h1, h3, h4⟩))
  have HIR : Hid (∀ W, Calls Try.prog 13 #[.agg #[.int .i64 num, .int .i64 den, .int .i64 burst, .int .i64 0, .int .i64 0]] W fun e w' => e = .returned (.bool false) ∧ Below W.heap.size W w') := Lib.hid (fun W => by
    have := iRight_any ⟨num, den, burst, 0, 0⟩ W
    rw [fresh_right, hrt] at this
    exact this)
  obtain ⟨M, hM⟩ : ∃ M, wrap64 (burst * den) = M := ⟨_, rfl⟩
  rw [hn] at hlen
  clear hP hn hpl
  subst hpl0 hpe0
  have HPB := Lib.hid hpb0
  clear hrt hpb0
  dsimp only [List.length_nil] at HPL
  go_enter Try.func5, Try.ntmps5
  go_wp2_with fail
  refine (HPL.out _ (Below.refl _ _)).mono ?_
  rintro e m1 ⟨R, cR, rfl, hR, hb⟩
  have hl := laidB_at m1 pb
  have HX := Lib.hid (And.intro (hb.trans (hl.2.mono hb.size)) (And.intro (hR.below hl.2) (And.intro hl.1 (show w.heap.size ≤ m1.heap.size from hb.size))))
  clear hb hl hR HPL
  go_upto_region 2 with fail
  change Code.wp _ _ _ _ (laidB m1 pb)
  generalize laidB m1 pb = W0 at *
  generalize m1.heap.size = g10 at *
  have hl := laidB_at W0 ⟨num, den, burst, 0, 0⟩
  have HQ : Hid (PI W0 (laidB W0 ⟨num, den, burst, 0, 0⟩) ⟨num, den, burst, 0, 0⟩ (.slice none 0 0) []) := Lib.hid ⟨hl.2, hl.1, OwnW.nil _ _, by simp [laidB]⟩
  clear hl
  go_upto_region 3 with fail
  change Code.wp _ _ _ _ (laidB W0 ⟨num, den, burst, 0, 0⟩)
  generalize laidB W0 ⟨num, den, burst, 0, 0⟩ = m2 at *
  have hc := HQ.out.want.cells
  dsimp only at hc
  obtain ⟨c0, c1, c2, c3, c4⟩ := hc
  go_wp2_with fail
  refine (HIR.out _).mono ?_
  rintro e m3 ⟨rfl, hb⟩
  have HQ1 := Lib.hid (HQ.out.later hb)
  clear HQ hb HIR c0 c1 c2 c3 c4
  have hpb0 := HPB.out
  subst hpb0
  clear HPB
  go_wp2_with fail
  go_loopg [13, 14] 0 (fun _ f c wr => f = .int .i64 2 ∧ c = .int .i64 1 ∧ wr = m3)
  case atStart => exact ⟨rfl, rfl, rfl⟩
  case round =>
    obtain ⟨rfl, rfl, rfl⟩ := hrel
    have hcase : (1 : Int) < (n : Int) ∨ ¬ (1 : Int) < (n : Int) := by omega
    rcases hcase with h1 | h1
    all_goals
      have hc := HQ1.out.want.cells
      have f3 := HQ1.out.want.frozen 3
      have hl3 := HQ1.out.want.lt
      dsimp only at hc
      obtain ⟨c0, c1, c2, c3, c4⟩ := hc
      have HQL : Hid (PI W0 (wr.setCell ⟨W0.heap.size, 3, none⟩ (.int .i64 M)) ⟨num, den, burst, M, 0⟩ (.slice none 0 0) []) := Lib.hid ⟨HQ1.out.below.setCell (Nat.le_refl _) _, HQ1.out.want.lev M, OwnW.nil _ _, by have := HQ1.out.size; simpa [World.setCell] using this⟩
      go_upto_region 13 with fail
      clear c0 c1 c2 c3 c4 f3 hl3 HQ1
      generalize wr.setCell ⟨W0.heap.size, 3, none⟩ (.int .i64 M) = m5 at *
      go_wp2_with fail
      go_loopg [13, 66] n (fun k f c wr => f = .int .i64 2 ∧ c = .int .i64 0 ∧ k = n ∧ wr = m5)
      case atStart => exact ⟨rfl, rfl, rfl, rfl⟩
      case round =>
        obtain ⟨rfl, rfl, hk, rfl⟩ := hrel
        cases n with
        | zero =>
          have HB := Lib.hid HQL.out.below
          clear HQL HSH HN
          have hz := (HX.out.2.2.1.below HB.out).cells
          unfold Bk.zero at hz
          dsimp only at hz
          obtain ⟨d0, d1, d2, d3, d4⟩ := hz
          have HD := Lib.hid (HX.out.1.trans (HB.out.mono HX.out.1.size))
          clear HB HX
          go_wp2_with fail
          go_ret
          exact ⟨by simp, HD.out⟩
        | succ k =>
          obtain ⟨b, off, ti, ni, rfl, hx, a0, a1, hbl⟩ := (HSH.out _ (HX.out.1.trans (HQL.out.below.mono HX.out.1.size))).next (i := 0) (by have := HN.out; omega)
          rw [Nat.zero_mul, Nat.add_zero] at a0 a1
          have i1 : (0 : Int) < ((k + 1 : Nat) : Int) := by omega
          have bo : Below wr.heap.size wr (wr.alloc (.cells #[.int .i64 ti, .int .i64 ni] 36)) := (Below.refl _ _).alloc (Nat.le_refl _) _
          have HB := Lib.hid (HQL.out.below.trans (bo.mono HQL.out.below.size))
          clear HQL HSH HN hx bo hbl hk
          go_upto_region 16 with fail
          clear a0 a1
          generalize wr.alloc (.cells #[.int .i64 ti, .int .i64 ni] 36) = m6 at *
          have hz := (HX.out.2.2.1.below HB.out).cells
          unfold Bk.zero at hz
          dsimp only at hz
          obtain ⟨d0, d1, d2, d3, d4⟩ := hz
          have HD := Lib.hid (HX.out.1.trans (HB.out.mono HX.out.1.size))
          clear HB HX
          go_wp2_with fail
          go_ret
          exact ⟨by simp, HD.out⟩

set_option maxRecDepth 100000 in
set_option maxHeartbeats 8000000 in
theorem plays_unsorted {w : World} {A : Option Addr} {xs : List (Int × Int)} {n : Nat} (hP : ShotsIn w A xs) (hn : xs.length = n) (cap : Nat) (num den burst : Int) (hrt : rate num den burst = true) (hsr : srt xs = false) :
    Calls Try.prog 5 #[.int .i64 num, .int .i64 den, .int .i64 burst, .slice A n cap] w fun e w' => e = .returned (.bool true) ∧ Below w.heap.size w w' := by
  obtain ⟨pl, hpl0⟩ : ∃ pl : List Bool, pl = [] := ⟨_, rfl⟩
  obtain ⟨pb, hpb0⟩ : ∃ pb, pb = Bk.zero := ⟨_, rfl⟩
  obtain ⟨pe, hpe0⟩ : ∃ pe : Int, pe = 1 := ⟨_, rfl⟩
  have hpl : played num den burst xs = (pl, pb, pe) := by rw [hpl0, hpb0, hpe0]; unfold played; rw [hrt, hsr]; rfl
  have HSH := Lib.hid (fun W (hW : Below w.heap.size w W) => hP.below hW)
  have HN := Lib.hid hn
  have hlen := hP.len
  have HPL : Hid (∀ W, Below w.heap.size w W → Calls Try.prog 19 #[.int .i64 num, .int .i64 den, .int .i64 burst, .slice A n cap] W fun e w' => ∃ R cR, e = .returned (.tuple #[.slice R pl.length cR, .agg #[.int .i64 pb.num, .int .i64 pb.den, .int .i64 pb.burst, .int .i64 pb.lev, .int .i64 pb.tm], .int .i64 pe]) ∧ WordsIn w' R pl ∧ Below W.heap.size W w') := Lib.hid (fun W hW => by
    have := play_any (hP.below hW) cap num den burst
    rw [hn, hpl] at this
    exact this.mono (fun e w' ⟨R, cR, h1, _, h3, h4⟩ => ⟨R, cR, h1, h3, h4⟩))
  have HIR : Hid (∀ W, Calls Try.prog 13 #[.agg #[.int .i64 num, .int .i64 den, .int .i64 burst, .int .i64 0, .int .i64 0]] W fun e w' => e = .returned (.bool true) ∧ Below W.heap.size W w') := Lib.hid (fun W => by
    have := iRight_any ⟨num, den, burst, 0, 0⟩ W
    rw [fresh_right, hrt] at this
    exact this)
  obtain ⟨M, hM⟩ : ∃ M, wrap64 (burst * den) = M := ⟨_, rfl⟩
  rw [hn] at hlen
  clear hP hn hpl
  subst hpl0 hpe0
  have HPB := Lib.hid hpb0
  have HSR := Lib.hid hsr
  clear hrt hpb0 hsr
  dsimp only [List.length_nil] at HPL
  go_enter Try.func5, Try.ntmps5
  go_wp2_with fail
  refine (HPL.out _ (Below.refl _ _)).mono ?_
  rintro e m1 ⟨R, cR, rfl, hR, hb⟩
  have hl := laidB_at m1 pb
  have HX := Lib.hid (And.intro (hb.trans (hl.2.mono hb.size)) (And.intro (hR.below hl.2) (And.intro hl.1 (show w.heap.size ≤ m1.heap.size from hb.size))))
  clear hb hl hR HPL
  go_upto_region 2 with fail
  change Code.wp _ _ _ _ (laidB m1 pb)
  generalize laidB m1 pb = W0 at *
  generalize m1.heap.size = g10 at *
  have hl := laidB_at W0 ⟨num, den, burst, 0, 0⟩
  have HQ : Hid (PI W0 (laidB W0 ⟨num, den, burst, 0, 0⟩) ⟨num, den, burst, 0, 0⟩ (.slice none 0 0) []) := Lib.hid ⟨hl.2, hl.1, OwnW.nil _ _, by simp [laidB]⟩
  clear hl
  go_upto_region 3 with fail
  change Code.wp _ _ _ _ (laidB W0 ⟨num, den, burst, 0, 0⟩)
  generalize laidB W0 ⟨num, den, burst, 0, 0⟩ = m2 at *
  have hc := HQ.out.want.cells
  dsimp only at hc
  obtain ⟨c0, c1, c2, c3, c4⟩ := hc
  go_wp2_with fail
  refine (HIR.out _).mono ?_
  rintro e m3 ⟨rfl, hb⟩
  have HQ1 := Lib.hid (HQ.out.later hb)
  clear HQ hb HIR c0 c1 c2 c3 c4
  have hpb0 := HPB.out
  subst hpb0
  clear HPB
  go_wp2_with fail
  go_loopg [13, 14] n (fun k f c wr => ∃ j : Nat, c = .int .i64 ((j : Int) + 1) ∧ j ≤ n ∧ Hid (PI W0 wr ⟨num, den, burst, 0, 0⟩ (.slice none 0 0) []) ∧ ((f = .int .i64 0 ∧ j + k = n ∧ Hid (∀ i a b, i < j → xs[i]? = some a → xs[i + 1]? = some b → a.1 ≤ b.1)) ∨ (f = .int .i64 1 ∧ k = 0 ∧ srt xs = false)))
  case atStart => exact ⟨0, by go_num, Nat.zero_le _, HQ1, .inl ⟨rfl, by omega, Lib.hid (fun i a b hi => by omega)⟩⟩
  case round =>
    clear HQ1
    obtain ⟨j, rfl, hjn, HQ1, hcase⟩ := hrel
    rcases hcase with ⟨rfl, hjk, HI⟩ | ⟨rfl, hk0, hsf⟩
    · by_cases hj : (j : Int) + 1 < (n : Int)
      · obtain ⟨b, off, t1, n1, rfl, hx1, a0, a1, _⟩ := (HSH.out _ (HX.out.1.trans (HQ1.out.below.mono HX.out.1.size))).next (i := j + 1) (by have := HN.out; omega)
        obtain ⟨b', off', t0, n0, hbb, hx0, d0, d1, _⟩ := (HSH.out _ (HX.out.1.trans (HQ1.out.below.mono HX.out.1.size))).next (i := j) (by have := HN.out; omega)
        injection hbb with hbb
        injection hbb with hb1 hb2
        subst hb1 hb2
        have i0 : (0 : Int) ≤ (j : Int) + 1 := by omega
        have i2 : ((j : Int) + 1).toNat = j + 1 := by omega
        have i3 : IntKind.i64.wrap ((j : Int) + 1 - 1) = (j : Int) := by rw [show (j : Int) + 1 - 1 = (j : Int) by omega]; exact wrap_i64 (by omega) (by omega)
        have i4 : (j : Int) < (n : Int) := by omega
        have i5 : IntKind.i64.wrap (j : Int) = (j : Int) := wrap_i64 (by omega) (by omega)
        obtain ⟨k, rfl⟩ : ∃ k, gk = k + 1 := ⟨gk - 1, by omega⟩
        by_cases hlt : t1 < t0
        · clear hx0 hx1 HI
          go_wp2_with fail
          go_quiet (fail)
          have HQ2 := Lib.hid (HQ1.out.later (below_drewN (Below.refl _ _) nq))
          clear HQ1 i3 i5 a0 a1 d0 d1
          go_wp2_with fail
          go_roundg 0
          case measure => omega
          case rel => exact ⟨j + 1, by go_num, by omega, HQ2, .inr ⟨rfl, rfl, HSR.out⟩⟩
        · have HI2 : Hid (∀ i a b, i < j + 1 → xs[i]? = some a → xs[i + 1]? = some b → a.1 ≤ b.1) := Lib.hid (fun i a b hi ha hb => by
            rcases (by omega : i < j ∨ i = j) with c | rfl
            · exact HI.out i a b c ha hb
            · rw [hx0] at ha
              rw [hx1] at hb
              injection ha with ha
              injection hb with hb
              subst ha hb
              dsimp only
              omega)
          clear hx0 hx1 HI
          go_wp2_with fail
          go_quiet (fail)
          have HQ2 := Lib.hid (HQ1.out.later (below_drewN (Below.refl _ _) nq))
          clear HQ1 i3 i5 a0 a1 d0 d1
          go_wp2_with fail
          go_roundg k
          case measure => omega
          case rel => exact ⟨j + 1, by go_num, by omega, HQ2, .inl ⟨rfl, by omega, HI2⟩⟩
      · exfalso
        have := srt_iff.2 (fun i a b ha hb => HI.out i a b (by have := (List.getElem?_eq_some_iff.1 hb).1; have := HN.out; omega) ha hb)
        rw [HSR.out] at this
        cases this
    · clear hsf hk0
      have hcase : (j : Int) + 1 < (n : Int) ∨ ¬ (j : Int) + 1 < (n : Int) := by omega
      rcases hcase with h1 | h1
      all_goals
        clear hjn
        have hc := HQ1.out.want.cells
        have f3 := HQ1.out.want.frozen 3
        have hl3 := HQ1.out.want.lt
        dsimp only at hc
        obtain ⟨c0, c1, c2, c3, c4⟩ := hc
        have HQL : Hid (PI W0 (wr.setCell ⟨W0.heap.size, 3, none⟩ (.int .i64 M)) ⟨num, den, burst, M, 0⟩ (.slice none 0 0) []) := Lib.hid ⟨HQ1.out.below.setCell (Nat.le_refl _) _, HQ1.out.want.lev M, OwnW.nil _ _, by have := HQ1.out.size; simpa [World.setCell] using this⟩
        go_upto_region 13 with fail
        clear c0 c1 c2 c3 c4 f3 hl3 HQ1
        generalize wr.setCell ⟨W0.heap.size, 3, none⟩ (.int .i64 M) = m5 at *
        go_wp2_with fail
        go_loopg [13, 66] n (fun k f c wr => f = .int .i64 1 ∧ c = .int .i64 0 ∧ k = n ∧ wr = m5)
        case atStart => exact ⟨rfl, rfl, rfl, rfl⟩
        case round =>
          obtain ⟨rfl, rfl, hk, rfl⟩ := hrel
          cases n with
          | zero =>
            have HB := Lib.hid HQL.out.below
            clear HQL HSH HN
            have hz := (HX.out.2.2.1.below HB.out).cells
            unfold Bk.zero at hz
            dsimp only at hz
            obtain ⟨d0, d1, d2, d3, d4⟩ := hz
            have HD := Lib.hid (HX.out.1.trans (HB.out.mono HX.out.1.size))
            clear HB HX
            go_wp2_with fail
            go_ret
            exact ⟨by simp, HD.out⟩
          | succ k =>
            obtain ⟨b, off, ti, ni, rfl, hx, a0, a1, hbl⟩ := (HSH.out _ (HX.out.1.trans (HQL.out.below.mono HX.out.1.size))).next (i := 0) (by have := HN.out; omega)
            rw [Nat.zero_mul, Nat.add_zero] at a0 a1
            have i1 : (0 : Int) < ((k + 1 : Nat) : Int) := by omega
            have bo : Below wr.heap.size wr (wr.alloc (.cells #[.int .i64 ti, .int .i64 ni] 36)) := (Below.refl _ _).alloc (Nat.le_refl _) _
            have HB := Lib.hid (HQL.out.below.trans (bo.mono HQL.out.below.size))
            clear HQL HSH HN hx bo hbl hk
            go_upto_region 16 with fail
            clear a0 a1
            generalize wr.alloc (.cells #[.int .i64 ti, .int .i64 ni] 36) = m6 at *
            have hz := (HX.out.2.2.1.below HB.out).cells
            unfold Bk.zero at hz
            dsimp only at hz
            obtain ⟨d0, d1, d2, d3, d4⟩ := hz
            have HD := Lib.hid (HX.out.1.trans (HB.out.mono HX.out.1.size))
            clear HB HX
            go_wp2_with fail
            go_ret
            exact ⟨by simp, HD.out⟩

set_option maxRecDepth 100000 in
set_option maxHeartbeats 8000000 in
theorem plays_sorted {w : World} {A : Option Addr} {xs : List (Int × Int)} {n : Nat} (hP : ShotsIn w A xs) (hn : xs.length = n) (cap : Nat) (num den burst : Int) (hrt : rate num den burst = true) (hsr : srt xs = true) :
    Calls Try.prog 5 #[.int .i64 num, .int .i64 den, .int .i64 burst, .slice A n cap] w fun e w' => e = .returned (.bool true) ∧ Below w.heap.size w w' := by
  obtain ⟨pl, pb, pe, hpl⟩ : ∃ pl pb pe, played num den burst xs = (pl, pb, pe) := ⟨_, _, _, rfl⟩
  have HGOOD : Hid (fine (Bk.full num den burst) xs = true → pl = (run (Bk.full num den burst) xs).1 ∧ pb = (run (Bk.full num den burst) xs).2 ∧ pe = 0) := Lib.hid (fun h => by
    unfold played at hpl
    rw [hrt, hsr, h] at hpl
    simp only [if_true, Prod.mk.injEq] at hpl
    exact ⟨hpl.1.symm, hpl.2.1.symm, hpl.2.2.symm⟩)
  have HBAD : Hid (fine (Bk.full num den burst) xs = false → pl = [] ∧ pb = Bk.zero ∧ pe = 2) := Lib.hid (fun h => by
    unfold played at hpl
    rw [hrt, hsr, h] at hpl
    simp only [if_true, Bool.false_eq_true, if_false, Prod.mk.injEq] at hpl
    exact ⟨hpl.1.symm, hpl.2.1.symm, hpl.2.2.symm⟩)
  have HOK := Lib.hid (full_ok hrt)
  have HFN := Lib.hid (fun i x (h : xs[i]? = some x) hf => fine_next (b := Bk.full num den burst) h hf)
  have HST := Lib.hid (fun i (h : fine (Bk.full num den burst) (xs.take i) = false) => fine_stop h)
  have HRN : Hid (0 = 0) := Lib.hid rfl
  have HSH := Lib.hid (fun W (hW : Below w.heap.size w W) => hP.below hW)
  have HN := Lib.hid hn
  have hlen := hP.len
  have HPL : Hid (∀ W, Below w.heap.size w W → Calls Try.prog 19 #[.int .i64 num, .int .i64 den, .int .i64 burst, .slice A n cap] W fun e w' => ∃ R cR, e = .returned (.tuple #[.slice R pl.length cR, .agg #[.int .i64 pb.num, .int .i64 pb.den, .int .i64 pb.burst, .int .i64 pb.lev, .int .i64 pb.tm], .int .i64 pe]) ∧ WordsIn w' R pl ∧ Below W.heap.size W w') := Lib.hid (fun W hW => by
    have := play_any (hP.below hW) cap num den burst
    rw [hn, hpl] at this
    exact this.mono (fun e w' ⟨R, cR, h1, _, h3, h4⟩ => ⟨R, cR, h1, h3, h4⟩))
  have HIR : Hid (∀ W, Calls Try.prog 13 #[.agg #[.int .i64 num, .int .i64 den, .int .i64 burst, .int .i64 0, .int .i64 0]] W fun e w' => e = .returned (.bool true) ∧ Below W.heap.size W w') := Lib.hid (fun W => by
    have := iRight_any ⟨num, den, burst, 0, 0⟩ W
    rw [fresh_right, hrt] at this
    exact this)
  obtain ⟨M, hM⟩ : ∃ M, wrap64 (burst * den) = M := ⟨_, rfl⟩
  rw [hn] at hlen
  clear hP hn hpl
  have HMF : Hid (Bk.mk num den burst M 0 = Bk.full num den burst) := Lib.hid (by rw [← hM]; exact made_cells hrt)
  have HSR := Lib.hid hsr
  obtain ⟨pn, hpn⟩ : ∃ pn, pl.length = pn := ⟨_, rfl⟩
  rw [hpn] at HPL
  have HPN := Lib.hid hpn
  clear hrt hsr hpn
  go_enter Try.func5, Try.ntmps5
  go_wp2_with fail
  refine (HPL.out _ (Below.refl _ _)).mono ?_
  rintro e m1 ⟨R, cR, rfl, hR, hb⟩
  have hl := laidB_at m1 pb
  have HX := Lib.hid (And.intro (hb.trans (hl.2.mono hb.size)) (And.intro (hR.below hl.2) (And.intro hl.1 (show w.heap.size ≤ m1.heap.size from hb.size))))
  clear hb hl hR HPL
  go_upto_region 2 with fail
  change Code.wp _ _ _ _ (laidB m1 pb)
  generalize laidB m1 pb = W0 at *
  generalize m1.heap.size = g10 at *
  have hl := laidB_at W0 ⟨num, den, burst, 0, 0⟩
  have HQ : Hid (PI W0 (laidB W0 ⟨num, den, burst, 0, 0⟩) ⟨num, den, burst, 0, 0⟩ (.slice none 0 0) []) := Lib.hid ⟨hl.2, hl.1, OwnW.nil _ _, by simp [laidB]⟩
  clear hl
  go_upto_region 3 with fail
  change Code.wp _ _ _ _ (laidB W0 ⟨num, den, burst, 0, 0⟩)
  generalize laidB W0 ⟨num, den, burst, 0, 0⟩ = m2 at *
  have hc := HQ.out.want.cells
  dsimp only at hc
  obtain ⟨c0, c1, c2, c3, c4⟩ := hc
  go_wp2_with fail
  refine (HIR.out _).mono ?_
  rintro e m3 ⟨rfl, hb⟩
  have HQ1 := Lib.hid (HQ.out.later hb)
  clear HQ hb HIR c0 c1 c2 c3 c4
  go_wp2_with fail
  go_loopg [13, 14] n (fun k f c wr => ∃ j : Nat, c = .int .i64 ((j : Int) + 1) ∧ j ≤ n ∧ Hid (PI W0 wr ⟨num, den, burst, 0, 0⟩ (.slice none 0 0) []) ∧ ((f = .int .i64 0 ∧ j + k = n ∧ Hid (∀ i a b, i < j → xs[i]? = some a → xs[i + 1]? = some b → a.1 ≤ b.1)) ∨ (f = .int .i64 1 ∧ k = 0 ∧ srt xs = false)))
  case atStart => exact ⟨0, by go_num, Nat.zero_le _, HQ1, .inl ⟨rfl, by omega, Lib.hid (fun i a b hi => by omega)⟩⟩
  case round =>
    clear HQ1
    obtain ⟨j, rfl, hjn, HQ1, hcase⟩ := hrel
    rcases hcase with ⟨rfl, hjk, HI⟩ | ⟨rfl, hk0, hsf⟩
    · by_cases hj : (j : Int) + 1 < (n : Int)
      · obtain ⟨b, off, t1, n1, rfl, hx1, a0, a1, _⟩ := (HSH.out _ (HX.out.1.trans (HQ1.out.below.mono HX.out.1.size))).next (i := j + 1) (by have := HN.out; omega)
        obtain ⟨b', off', t0, n0, hbb, hx0, d0, d1, _⟩ := (HSH.out _ (HX.out.1.trans (HQ1.out.below.mono HX.out.1.size))).next (i := j) (by have := HN.out; omega)
        injection hbb with hbb
        injection hbb with hb1 hb2
        subst hb1 hb2
        have i0 : (0 : Int) ≤ (j : Int) + 1 := by omega
        have i2 : ((j : Int) + 1).toNat = j + 1 := by omega
        have i3 : IntKind.i64.wrap ((j : Int) + 1 - 1) = (j : Int) := by rw [show (j : Int) + 1 - 1 = (j : Int) by omega]; exact wrap_i64 (by omega) (by omega)
        have i4 : (j : Int) < (n : Int) := by omega
        have i5 : IntKind.i64.wrap (j : Int) = (j : Int) := wrap_i64 (by omega) (by omega)
        obtain ⟨k, rfl⟩ : ∃ k, gk = k + 1 := ⟨gk - 1, by omega⟩
        by_cases hlt : t1 < t0
        · exfalso
          have := srt_false hx0 hx1 hlt
          rw [HSR.out] at this
          cases this
        · have HI2 : Hid (∀ i a b, i < j + 1 → xs[i]? = some a → xs[i + 1]? = some b → a.1 ≤ b.1) := Lib.hid (fun i a b hi ha hb => by
            rcases (by omega : i < j ∨ i = j) with c | rfl
            · exact HI.out i a b c ha hb
            · rw [hx0] at ha
              rw [hx1] at hb
              injection ha with ha
              injection hb with hb
              subst ha hb
              dsimp only
              omega)
          clear hx0 hx1 HI
          go_wp2_with fail
          go_quiet (fail)
          have HQ2 := Lib.hid (HQ1.out.later (below_drewN (Below.refl _ _) nq))
          clear HQ1 i3 i5 a0 a1 d0 d1
          go_wp2_with fail
          go_roundg k
          case measure => omega
          case rel => exact ⟨j + 1, by go_num, by omega, HQ2, .inl ⟨rfl, by omega, HI2⟩⟩
      · clear HI hjk hjn
        have hc := HQ1.out.want.cells
        have f3 := HQ1.out.want.frozen 3
        have hl3 := HQ1.out.want.lt
        dsimp only at hc
        obtain ⟨c0, c1, c2, c3, c4⟩ := hc
        have HQL : Hid (PI W0 (wr.setCell ⟨W0.heap.size, 3, none⟩ (.int .i64 M)) ⟨num, den, burst, M, 0⟩ (.slice none 0 0) []) := Lib.hid ⟨HQ1.out.below.setCell (Nat.le_refl _) _, HQ1.out.want.lev M, OwnW.nil _ _, by have := HQ1.out.size; simpa [World.setCell] using this⟩
        go_upto_region 13 with fail
        clear c0 c1 c2 c3 c4 f3 hl3 HQ1
        generalize wr.setCell ⟨W0.heap.size, 3, none⟩ (.int .i64 M) = m5 at *
        have HL0 : Hid (PI W0 m5 (run (Bk.full num den burst) (xs.take 0)).2 (.slice none 0 0) (run (Bk.full num den burst) (xs.take 0)).1) := Lib.hid (HMF.out ▸ HQL.out)
        clear HQL HSR HMF
        generalize Bk.full num den burst = B0 at *
        go_wp2_with fail
        go_loopg [13, 15, 66] n (fun k f v cc wr => ∃ (i : Nat) (er : Int) (s : List Bool × Bk), cc = .int .i64 (i : Int) ∧ i + k = n ∧ f = .int .i64 er ∧ s.1.length = i ∧ Hid (PI W0 wr s.2 v s.1) ∧ Hid ((er = 0 → fine B0 (xs.take i) = true ∧ s = run B0 (xs.take i)) ∧ (er ≠ 0 → er = 2 ∧ fine B0 xs = false)))
        case atStart => exact ⟨0, 0, run B0 (xs.take 0), rfl, by omega, rfl, rfl, HL0, Lib.hid ⟨fun _ => ⟨rfl, rfl⟩, fun h => absurd rfl h⟩⟩
        case round =>
          clear HL0
          obtain ⟨i, er, s, rfl, hik, rfl, hsl, HPI, HRE⟩ := hrel
          by_cases he : er = 0
          · subst he
            obtain ⟨hfi, hs⟩ := HRE.out.1 rfl
            clear HRE
            cases gk with
            | zero =>
              obtain rfl : i = n := by omega
              have hx : xs.take i = xs := List.take_of_length_le (by have := HN.out; omega)
              rw [hx] at hfi hs
              obtain ⟨q1, q2, q3⟩ := HGOOD.out hfi
              rw [← hs] at q1 q2
              subst q1 q2 q3
              obtain rfl : pn = i := by rw [← HPN.out, hsl]
              obtain ⟨A', cp, rfl, hw2⟩ := HPI.out.own.form (by omega)
              rw [hsl]
              have HW := Lib.hid (And.intro (HX.out.2.1.below HPI.out.below) hw2)
              have HD := Lib.hid (HX.out.1.trans (HPI.out.below.mono HX.out.1.size))
              obtain ⟨c0, c1, c2, c3, c4⟩ := (HX.out.2.2.1.below HPI.out.below).cells
              obtain ⟨d0, d1, d2, d3, d4⟩ := HPI.out.want.cells
              have HSL := Lib.hid hsl
              clear hfi hs hx hw2 HBAD HGOOD HPN HX HPI hik hsl HFN HST HRN HOK HSH HN
              go_upto_region 24 with fail
              clear c0 c1 c2 c3 c4 d0 d1 d2 d3 d4
              go_wp2_with fail
              go_loopg [117] pn (fun k cc w9 => ∃ j t : Nat, cc = .int .i64 (j : Int) ∧ j + k = pn ∧ w9 = wr.drewN t)
              case atStart => exact ⟨0, 0, rfl, by omega, rfl⟩
              case round =>
                obtain ⟨j, t, rfl, hjk, rfl⟩ := hrel
                cases gk with
                | zero =>
                  obtain rfl : j = pn := by omega
                  have HE := Lib.hid (below_drewN HD.out t)
                  clear HW HD
                  go_wp2_with fail
                  go_ret
                  exact ⟨rfl, HE.out⟩
                | succ k =>
                  have j1 : (j : Int) < (pn : Int) := by omega
                  obtain ⟨b1, o1, x, rfl, hx, hat1, _⟩ := HW.out.1.next (i := j) (by have := HSL.out; omega)
                  obtain ⟨b2, o2, y, rfl, hy, hat2, _⟩ := HW.out.2.next (i := j) (by have := HSL.out; omega)
                  obtain rfl : x = y := by rw [hx] at hy; injection hy
                  clear hx hy
                  go_wp2_with fail
                  go_quiet (fail)
                  go_wp2_with fail
                  go_roundg k
                  case measure => omega
                  case rel => exact ⟨j + 1, t + nq, by go_num, by omega, rfl⟩
            | succ k =>
              have i1 : (i : Int) < (n : Int) := by omega
              obtain ⟨b, off, ti, ni, rfl, hx, a0, a1, _⟩ := (HSH.out _ (HX.out.1.trans (HPI.out.below.mono HX.out.1.size))).next (i := i) (by have := HN.out; omega)
              have hT := take_ok (fine_ok HOK.out hfi) ti ni
              have hR := run_next (b := B0) hx
              have hF := HFN.out i _ hx hfi
              rw [← hs] at hT hR hF
              have HIT := Lib.hid (fun W => iTake_any s.2 ti ni W)
              unfold shotAct at hR
              dsimp only at hR hF
              generalize s.2.take ti ni = X at *
              obtain ⟨c, u, er⟩ := X
              dsimp only at hR hF hT
              have HREL : Hid ((er = 0 → fine B0 (xs.take (i + 1)) = true ∧ (s.1 ++ [u], c) = run B0 (xs.take (i + 1))) ∧ (er ≠ 0 → er = 2 ∧ fine B0 xs = false)) := Lib.hid ⟨fun h => ⟨by rw [hF]; exact decide_eq_true h, hR.symm⟩, fun h => ⟨by
                rcases hT with hT | hT
                · exact absurd hT.1 h
                · have := hT.1
                  injection this with _ this
                  injection this, HST.out (i + 1) (by rw [hF]; exact decide_eq_false h)⟩⟩
              have bo : Below wr.heap.size wr (wr.alloc (.cells #[.int .i64 ti, .int .i64 ni] 36)) := (Below.refl _ _).alloc (Nat.le_refl _) _
              have hsh : ShotAt (wr.alloc (.cells #[.int .i64 ti, .int .i64 ni] 36)) wr.heap.size ti ni := heap_alloc_new wr _
              have HPJ := Lib.hid (And.intro (HPI.out.later bo) hsh)
              clear hx hT hR hF hfi hs bo hsh HPI
              unfold Taken at HIT
              unfold Bk.cells at HIT
              dsimp only at HIT
              go_upto_region 16 with fail
              clear a0 a1
              generalize wr.alloc (.cells #[.int .i64 ti, .int .i64 ni] 36) = m6 at *
              generalize wr.heap.size = gs at *
              obtain ⟨⟨c0, c1, c2, c3, c4⟩, s0, s1⟩ := And.intro HPJ.out.1.want.cells HPJ.out.2.cells
              go_wp2_with fail
              refine (HIT.out _).mono ?_
              rintro e m7 ⟨rfl, hb⟩
              have hl := laidB_at m7 c
              have hpi := HPJ.out.1.later hb
              have HPK := Lib.hid (And.intro (hpi.later hl.2) (And.intro hl.1 (And.intro (show W0.heap.size < m7.heap.size by have := hpi.size; omega) (fun r hr => show m7.heap.size ≠ r by have := (World.ownsRow.lt hpi.own r hr).2; omega))))
              clear hb hl hpi HPJ HIT c0 c1 c2 c3 c4 s0 s1
              go_upto_region 18 with fail
              change Code.wp _ _ _ _ (laidB m7 c)
              generalize laidB m7 c = m8 at *
              generalize m7.heap.size = g18 at *
              have hsl' : (s.1 ++ [u]).length = i + 1 := by simp [hsl]
              have HP2 := Lib.hid (HPK.out.1.later (w' := m8.drew) (below_drewN (Below.refl _ _) 1))
              have HC2 : Hid (BkAt m8.drew g18 c) := Lib.hid HPK.out.2.1
              obtain ⟨v', W, hrun, hq, hgc, hpi⟩ := HP2.out.put c u (by rw [hsl]; omega) HC2.out HPK.out.2.2.2
              have HRUN := Lib.hid hrun
              have HQ3 := Lib.hid (And.intro hq (And.intro hgc hpi))
              have HGW := Lib.hid HPK.out.2.2.1
              clear hrun hq hgc hpi HP2 HPK
              refine wp_region_held_drew (S := (fun W : World => W.cell? ⟨g18, 0, none⟩ = some (.int .i64 c.num) ∧ W.cell? ⟨g18, 1, none⟩ = some (.int .i64 c.den) ∧ W.cell? ⟨g18, 2, none⟩ = some (.int .i64 c.burst) ∧ W.cell? ⟨g18, 3, none⟩ = some (.int .i64 c.lev) ∧ W.cell? ⟨g18, 4, none⟩ = some (.int .i64 c.tm))) (by kernel_rfl) (HC2.out.cells) (fun hHeld => ?_)
              generalize m8.drew = m9 at *
              refine wpAnyH_take (i := 0) (v := ?_) (by simp only [List.getElem?_toArray, List.getElem?_cons_zero] <;> rfl) (by kernel_rfl) (by kernel_rfl) (by kernel_rfl) (by exact fun _ _ _ h => h) (Or.inl ⟨by rfl, ?_⟩) hHeld ?_
              rotate_left
              · intro w hSw; (try dsimp only at hSw); go_simp; (try with_reducible rfl)
              (try simp only [Act.put, List.setIfInBounds_toArray, List.set_cons_zero, List.set_cons_succ])
              refine wpAnyH_take (i := 1) (v := ?_) (by simp only [List.getElem?_toArray, List.getElem?_cons_succ, List.getElem?_cons_zero] <;> rfl) (by kernel_rfl) (by kernel_rfl) (by kernel_rfl) (by exact fun _ _ _ h => h) (Or.inl ⟨by rfl, ?_⟩) hHeld ?_
              rotate_left
              · intro w hSw; (try dsimp only at hSw); go_simp; (try with_reducible rfl)
              (try simp only [Act.put, List.setIfInBounds_toArray, List.set_cons_zero, List.set_cons_succ])
              refine wpAnyH_take (i := 2) (v := ?_) (by simp only [List.getElem?_toArray, List.getElem?_cons_succ, List.getElem?_cons_zero] <;> rfl) (by kernel_rfl) (by kernel_rfl) (by kernel_rfl) (by exact fun _ _ _ h => h) (Or.inl ⟨by rfl, ?_⟩) hHeld ?_
              rotate_left
              · intro w hSw; (try dsimp only at hSw); go_simp; (try with_reducible rfl)
              (try simp only [Act.put, List.setIfInBounds_toArray, List.set_cons_zero, List.set_cons_succ])
              refine wpAnyH_take (i := 5) (v := ?_) (by simp only [List.getElem?_toArray, List.getElem?_cons_succ, List.getElem?_cons_zero] <;> rfl) (by kernel_rfl) (by kernel_rfl) (by kernel_rfl) (by exact fun _ _ _ h => h) (Or.inl ⟨by rfl, ?_⟩) hHeld ?_
              rotate_left
              · intro w hSw; (try dsimp only at hSw); go_simp; (try with_reducible rfl)
              (try simp only [Act.put, List.setIfInBounds_toArray, List.set_cons_zero, List.set_cons_succ])
              refine wpAnyH_ready (rs := [3]) (by kernel_rfl) (by simp) ?_
              refine AllReadyH.cons (by simp only [List.getElem?_toArray, List.getElem?_cons_succ, List.getElem?_cons_zero] <;> rfl) (fun K hK => ?_) AllReadyH.nil
              go_simp
              refine hK.out _ _ ?_ (fun hHeld => ?_)
              · exact BkAt.cells (b := c) ((Below.heap_alloc m9 _ g18 HC2.out.lt).trans HC2.out)
              clear hK K
              (try simp only [Act.put, List.setIfInBounds_toArray, List.set_cons_zero, List.set_cons_succ])
              refine wpAnyH_ready (rs := [4]) (by kernel_rfl) (by simp) ?_
              refine AllReadyH.cons (by simp only [List.getElem?_toArray, List.getElem?_cons_succ, List.getElem?_cons_zero] <;> rfl) (fun K hK => ?_) AllReadyH.nil
              refine step_append_eq rfl (.tmp 80) (.tmp 82) 41 rfl (by rfl) (by rfl) (HRUN.out _) ?_
              refine hK.out _ _ ?_ (fun hHeld => ?_)
              · exact BkAt.cells (b := c) HQ3.out.2.1
              clear hK K
              (try simp only [Act.put, List.setIfInBounds_toArray, List.set_cons_zero, List.set_cons_succ])
              refine wpAnyH_ready (rs := [6]) (by kernel_rfl) (by simp) ?_
              refine AllReadyH.cons (by simp only [List.getElem?_toArray, List.getElem?_cons_succ, List.getElem?_cons_zero] <;> rfl) (fun K hK => ?_) AllReadyH.nil
              rw [if_pos (by rfl)]
              refine wp_store_bk (.tmp 12) (.tmp 79) rfl W0.heap.size c s.2 rfl rfl HQ3.out.1 ?_
              refine hK.out _ _ ?_ (fun hHeld => ?_)
              · exact BkAt.cells (b := c) ((setRow_other W _ g18 _ (by have := HGW.out; omega)).trans HQ3.out.2.1)
              clear hK K
              (try simp only [Act.put])
              refine wpAnyH_take (i := 7) (v := ?_) (by simp only [List.getElem?_toArray, List.getElem?_cons_succ, List.getElem?_cons_zero] <;> rfl) (by kernel_rfl) (by kernel_rfl) (by kernel_rfl) (by exact fun _ _ _ h => h) (Or.inl ⟨by rfl, ?_⟩) hHeld ?_
              rotate_left
              · intro w hSw; (try dsimp only at hSw); go_simp; (try with_reducible rfl)
              (try simp only [Act.put, List.setIfInBounds_toArray, List.set_cons_zero, List.set_cons_succ])
              refine wpAnyH_take (i := 8) (v := ?_) (by simp only [List.getElem?_toArray, List.getElem?_cons_succ, List.getElem?_cons_zero] <;> rfl) (by kernel_rfl) (by kernel_rfl) (by kernel_rfl) (by exact fun _ _ _ h => h) (Or.inl ⟨by rfl, ?_⟩) hHeld ?_
              rotate_left
              · intro w hSw; (try dsimp only at hSw); go_simp; (try with_reducible rfl)
              (try simp only [Act.put, List.setIfInBounds_toArray, List.set_cons_zero, List.set_cons_succ])
              refine wpAnyH_done (by kernel_rfl) ?_ _
              have HP4 := Lib.hid HQ3.out.2.2
              clear HQ3 HRUN HC2 HGW hHeld
              generalize W.setRow W0.heap.size c.cells = mA at *
              go_wp2_with fail
              go_roundg k
              case measure => omega
              case rel => exact ⟨i + 1, er, (s.1 ++ [u], c), by go_num, by omega, rfl, hsl', HP4, HREL⟩
          · have hff := (HRE.out.2 he).2
            obtain rfl := (HRE.out.2 he).1
            clear HRE he
            cases gk with
            | zero =>
              obtain rfl : i = n := by omega
              have HB := Lib.hid HPI.out.below
              clear HPI HSH HN hsl hik
              have hz := (HX.out.2.2.1.below HB.out).cells
              have HD := Lib.hid (HX.out.1.trans (HB.out.mono HX.out.1.size))
              obtain ⟨q1, q2, q3⟩ := HBAD.out hff
              subst q1 q2 q3
              obtain rfl : pn = 0 := HPN.out.symm
              unfold Bk.zero at hz
              dsimp only at hz
              obtain ⟨d0, d1, d2, d3, d4⟩ := hz
              clear HBAD HGOOD HPN HX HB hff HFN HST HRN HOK
              go_wp2_with fail
              go_ret
              exact ⟨by simp, HD.out⟩
            | succ k =>
              have i1 : (i : Int) < (n : Int) := by omega
              obtain ⟨b, off, ti, ni, rfl, hx, a0, a1, _⟩ := (HSH.out _ (HX.out.1.trans (HPI.out.below.mono HX.out.1.size))).next (i := i) (by have := HN.out; omega)
              have bo : Below wr.heap.size wr (wr.alloc (.cells #[.int .i64 ti, .int .i64 ni] 36)) := (Below.refl _ _).alloc (Nat.le_refl _) _
              have HB := Lib.hid (HPI.out.below.trans (bo.mono HPI.out.below.size))
              clear hx bo HPI HSH HN hsl hik
              go_upto_region 16 with fail
              clear a0 a1
              generalize wr.alloc (.cells #[.int .i64 ti, .int .i64 ni] 36) = m6 at *
              have hz := (HX.out.2.2.1.below HB.out).cells
              have HD := Lib.hid (HX.out.1.trans (HB.out.mono HX.out.1.size))
              obtain ⟨q1, q2, q3⟩ := HBAD.out hff
              subst q1 q2 q3
              obtain rfl : pn = 0 := HPN.out.symm
              unfold Bk.zero at hz
              dsimp only at hz
              obtain ⟨d0, d1, d2, d3, d4⟩ := hz
              clear HBAD HGOOD HPN HX HB hff HFN HST HRN HOK
              go_wp2_with fail
              go_ret
              exact ⟨by simp, HD.out⟩
    · rw [HSR.out] at hsf
      cases hsf

theorem plays_law {w : World} {A : Option Addr} {xs : List (Int × Int)} {n : Nat} (hP : ShotsIn w A xs) (hn : xs.length = n) (cap : Nat) (num den burst : Int) :
    Calls Try.prog 5 #[.int .i64 num, .int .i64 den, .int .i64 burst, .slice A n cap] w fun e w' => e = .returned (.bool true) ∧ Below w.heap.size w w' := by
  cases hrt : rate num den burst with
  | false => exact plays_norate hP hn cap num den burst hrt
  | true =>
    cases hsr : srt xs with
    | false => exact plays_unsorted hP hn cap num den burst hrt hsr
    | true => exact plays_sorted hP hn cap num den burst hrt hsr
end Go.Proofs.Ytkcfhjbppnchoaa
