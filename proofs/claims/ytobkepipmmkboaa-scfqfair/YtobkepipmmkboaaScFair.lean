/- ScfqFair: two that both wait are served alike, by their weights. -/
import Derived.Test.YtobkepipmmkboaaScFairE
namespace Go.Proofs.Ytobkepipmmkboaa
open Go.RowKit Go.Maps

set_option maxRecDepth 100000 in
set_option maxHeartbeats 16000000 in
theorem fair_both {w : World} {P Q : Option Addr} {xs : List Int} {os : List (Int × Int × Int)} (hx : IntsIn w P xs) (hy : ThreeIn w Q os) (cx cy : Nat) (a b : Nat) (h0 : playErr xs os = 0) (ha : a < xs.length) (hb : b < xs.length) (hab : a ≠ b) :
    Calls Try.prog 5 #[.slice P xs.length cx, .slice Q os.length cy, .int .i64 (a : Int), .int .i64 (b : Int)] w fun e w' => e = .returned (.bool true) ∧ Below w.heap.size w w' := by
  have HA := Lib.hid (alive15_any w)
  have HPY := Lib.hid (fun W (hW : Below w.heap.size w W) => play_any (hx.below hW) (hy.below hW) cx cy)
  unfold Out at HPY
  rcases play_way xs os with ⟨h2, -⟩ | ⟨-, hR, hm, e1, e2, e3⟩
  · omega
  obtain ⟨wt, pt, g0, g1, F, z1, z2, z3, z4, z5, b1, b2, b3, hF⟩ := fair_plan hR hm ha hb hab
  rw [h0, e1, e2, e3, scRun_errs_length] at HPY
  obtain ⟨n, hn⟩ : ∃ n, xs.length = n := ⟨_, rfl⟩
  obtain ⟨m, hm1⟩ : ∃ m, os.length = m := ⟨_, rfl⟩
  have h16 : n ≤ 16 := by rw [← hn]; exact hR.few
  have hm4 : m ≤ 400 := by rw [← hm1]; exact hm
  have hsl := (scRun_tr (uW xs) xs.length os).sent_le
  have hel := scRun_errs_length (uW xs) xs.length os
  have hsb := fun s hs => (scRun_sent_bounds (fun k => (uW_bounds hR k).1) xs.length os s hs).1
  have hfa := hR.fn ha
  have hfb := hR.fn hb
  have HX := Lib.hid (fun W (hW : Below w.heap.size w W) => And.intro ((hx.below hW).at_ (by omega)) (And.intro (at_fn ha) (at_fn hb)))
  have HY := Lib.hid (fun W (hW : Below w.heap.size w W) => hy.below hW)
  rw [hn] at hF HPY hel hsl hsb ha hb ⊢
  generalize (scRun (uW xs) n os).errs = es at *
  generalize (scRun (uW xs) n os).sent = ss at *
  generalize leftL n (scRun (uW xs) n os).st = ls at *
  generalize ls.length = ll at *
  obtain ⟨sl, hs1⟩ : ∃ sl, ss.length = sl := ⟨_, rfl⟩
  rw [hs1] at hsl HPY
  rw [hm1] at hel hsl HPY ⊢
  obtain ⟨va, hva⟩ : ∃ va, fn xs a = va := ⟨_, rfl⟩
  obtain ⟨vb, hvb⟩ : ∃ vb, fn xs b = vb := ⟨_, rfl⟩
  rw [hva] at hF hfa HX
  rw [hvb] at hF hfb HX
  have HM := Lib.hid (And.intro hm1 (And.intro hel (And.intro hs1 hsb)))
  have HF := Lib.hid hF
  have HB := Lib.hid (And.intro b1 (And.intro b2 b3))
  have HZ := Lib.hid (And.intro z1 (And.intro z2 (And.intro z3 (And.intro z4 z5))))
  have hmk := run_make_row' (P := Try.prog) 22 3 (.int .i64 0) 8 Try.underlying22 info_int8 rfl .i64 .i64 n (by omega) (by omega)
  clear hx hy h0 hR hm e1 e2 e3 z1 z2 z3 z4 z5 b1 b2 b3 hF hm1 hs1 hel hsb hva hvb hn
  have d0 : decide ((a : Int) < 0) = false := decide_eq_false (by omega)
  have d1 : decide ((b : Int) < 0) = false := decide_eq_false (by omega)
  have d2 : decide ((n : Int) ≤ (a : Int)) = false := decide_eq_false (by omega)
  have d3 : decide ((n : Int) ≤ (b : Int)) = false := decide_eq_false (by omega)
  have d4 : ((a : Int) == (b : Int)) = false := by rw [beq_eq_false_iff_ne]; omega
  have d5 : ((m : Int) != (m : Int)) = false := by simp
  have a1 : (a : Int) < (n : Int) := by omega
  have a2 : (b : Int) < (n : Int) := by omega
  go_enter Try.func5, Try.ntmps5
  go_wp2_with fail
  refine HA.out.mono ?_
  rintro e w1 ⟨rfl, hb⟩
  have H1 := Lib.hid hb
  clear hb HA
  go_wp2_with fail
  refine (HPY.out _ H1.out).mono ?_
  rintro e w2 ⟨A, cA, B, cB, D, cD, rfl, hE, -, -, hb⟩
  have H2 := Lib.hid (And.intro (H1.out.trans (hb.mono H1.out.size)) hE)
  clear hb H1 hE
  go_upto_region 8 with fail
  have hst := fun w4 B => FairM.start (w := w2) (w4 := w4) n (B := B) (ss := ss) (h := wt 0)
  have hbl : Below w2.heap.size w2 ((w2.alloc (.cells (madeCells #[.int .i64 0] n) 3)).alloc (.cells #[.int .i64 0, .int .i64 0] 42)) := ((Below.refl _ _).alloc (Nat.le_refl _) _).alloc (by simp) _
  generalize (w2.alloc (.cells (madeCells #[.int .i64 0] n) 3)).alloc (.cells #[.int .i64 0, .int .i64 0] 42) = w3 at *
  have HC := Lib.hid (HPY.out w3 (H2.out.1.trans (hbl.mono H2.out.1.size)))
  have HST := Lib.hid hst
  obtain ⟨gw, hgw⟩ : ∃ gw, w2.heap.size = gw := ⟨_, rfl⟩
  rw [hgw] at HST ⊢
  obtain ⟨gg, hgg⟩ : ∃ gg, gw + 1 = gg := ⟨_, rfl⟩
  rw [hgg] at HST ⊢
  clear hgg hgw hmk HPY hst hbl d0 d1 d2 d3 d5
  go_wp2_with fail
  refine HC.out.mono ?_
  rintro e w4 ⟨A2, cA2, B2, cB2, D2, cD2, rfl, -, hS, -, hb⟩
  have H4 := Lib.hid (HST.out w4 B2 hb hS HM.out.2.2.2 HZ.out.1)
  clear hb hS HC HST
  obtain ⟨⟨gx, ox, rfl, lx, hxc⟩, fa, fb⟩ := HX.out w4 (H2.out.1.trans (H4.out.below.mono H2.out.1.size))
  have x1 := hxc _ _ fa
  have x2 := hxc _ _ fb
  have e1 : IntKind.i64.wrap (va + vb) = va + vb := wrap_in (by omega) (by omega)
  have e2 : IntKind.i64.wrap (1500 * (va + vb)) = 1500 * (va + vb) := wrap_in (by omega) (by omega)
  clear hxc fa fb
  go_upto_region 12 with fail
  go_quiet (fail)
  have HXC : Hid (∀ W, Below w2.heap.size w2 W → gx < W.heap.size ∧ W.cell? ⟨gx, ox + a, none⟩ = some (.int .i64 va) ∧ W.cell? ⟨gx, ox + b, none⟩ = some (.int .i64 vb)) := Lib.hid (fun W hW => by
    obtain ⟨⟨gy, oy, e, ly, hyc⟩, fa, fb⟩ := HX.out W (H2.out.1.trans (hW.mono H2.out.1.size))
    injection e with e
    injection e with e1 e2
    subst e1 e2
    exact ⟨ly, hyc _ _ fa, hyc _ _ fb⟩)
  have H5 := Lib.hid ((H4.out.later (below_drewN (Below.refl _ _) nq)).congr (h' := wt 0) (fun _ => rfl) (y0 := g0 0) (y1 := g1 0) HZ.out.2.2.1 HZ.out.2.2.2.1)
  have H6 := Lib.hid (HZ.out.2.2.2.2 0 0 0)
  have hz2 : ((0 : Nat) : Int) = (pt 0 : Int) := by rw [HZ.out.2.1]
  clear x1 x2 e1 e2 lx H4 HX
  generalize w4.drewN nq = w5 at *
  go_upto_region 14 with fail
  go_loopg [104, 15, 16, 17, 22] m (fun z c lo hi p bo wi => ∃ (i : Nat) (l h : Int) (v : Bool), c = .int .i64 (i : Int) ∧ lo = .int .i64 l ∧ hi = .int .i64 h ∧ p = .int .i64 (pt i : Int) ∧ bo = .bool v ∧ i + z = m ∧ Hid (F i v l h) ∧ Hid (FairM w2 wi gw gg n B2 ss (wt i) (g0 i) (g1 i)))
  case atStart => exact ⟨0, 0, 0, false, rfl, rfl, rfl, by rw [← hz2]; rfl, rfl, by omega, H6, H5⟩
  case round =>
    clear H5 H6 hz2
    obtain ⟨i, l, h, v, rfl, rfl, rfl, rfl, rfl, hik, HFi, HI⟩ := hrel
    cases gk with
    | zero =>
      have HE := Lib.hid (H2.out.1.trans (HI.out.below.mono H2.out.1.size))
      obtain rfl : i = m := by omega
      clear HI HFi H2 HF HB HZ HXC HY HM
      go_wp2_with fail
      go_ret
      exact ⟨rfl, HE.out⟩
    | succ z =>
      have hi : i < m := by omega
      have i1 : (i : Int) < (m : Int) := by omega
      obtain ⟨b0, o0, x, y, bb, rfl, hx, ⟨d0, d1, d2⟩, -⟩ := (HY.out _ (H2.out.1.trans (HI.out.below.mono H2.out.1.size))).next (i := i) (by rw [HM.out.1]; exact hi)
      obtain ⟨er, her, hway⟩ := HF.out i x y bb hx
      obtain ⟨b1, o1, e, rfl, hxe, d3, l3⟩ := (H2.out.2.below HI.out.below).next (i := i) (by rw [HM.out.2.1]; exact hi)
      obtain rfl : er = e := by rw [her] at hxe; injection hxe
      obtain ⟨T0, T1, T2, TB, TL⟩ := laidP_at wr x y bb
      have d3' := (TB.cell (p := ⟨b1, o1 + i, none⟩) l3).trans d3
      have HIK := Lib.hid hik
      have HJ := Lib.hid (HI.out.later TB)
      clear hx hxe her HI hik TB
      rcases hway with ⟨he, h1, hpn, h2, h3, h4⟩ | ⟨rfl, hst, hway⟩
      · have he1 : (er != 0) = true := by simpa using he
        have H5 := Lib.hid (HJ.out.congr h1 h2 h3)
        have H6 := Lib.hid (h4 v l h HFi.out)
        clear HFi HJ HF HB HZ HXC HY HM H2 he h1 h2 h3 h4
        go_upto_region 16 with fail
        change Code.wp _ _ _ _ (laidP wr x y bb)
        generalize laidP wr x y bb = m0 at *
        go_wp2_with fail
        go_roundg z
        case measure => omega
        case rel => exact ⟨i + 1, l, h, v, by go_num, rfl, rfl, by rw [hpn], rfl, by have := HIK.out; omega, H6, H5⟩
      · rcases hway with ⟨rfl, f, hf, rfl, h1, hpn, h2, h3⟩ | ⟨rfl, f, c, hf, hc0, hc1, hsx, hpn, h1, h2, h3⟩
        · have f1 : (f : Int) < (n : Int) := by omega
          obtain ⟨s1, s2⟩ := HJ.out.seat hf
          have lw := HJ.out.roww.lt
          have hwb := HB.out.1 i f
          have ew : IntKind.i64.wrap (wt i f + 1) = wt i f + 1 := wrap_in (by omega) (by omega)
          have H5 := Lib.hid ((HJ.out.put f (wt i f + 1) (h' := wt (i + 1)) (fun j => by
            rw [h1]
            by_cases c : j = f
            · rw [if_pos c, if_pos c, c]
            · rw [if_neg c, if_neg c])).congr (fun _ => rfl) h2 h3)
          clear HJ h1 h2 h3
          generalize wt i f = kf at *
          go_upto_region 16 with fail
          change Code.wp _ _ _ _ (laidP wr 1 (f : Int) bb)
          clear d0 d1 d2 d3
          generalize laidP wr 1 (f : Int) bb = m0 at *
          go_upto_region 29 with fail
          clear s1 s2 lw d3' T0 T1 T2 TL
          generalize m0.setCell ⟨gw, f, none⟩ (.int .i64 (kf + 1)) = m5 at *
          obtain ⟨s1, -⟩ := H5.out.seat ha
          obtain ⟨s2, -⟩ := H5.out.seat hb
          obtain ⟨p0, p1, p2⟩ := HXC.out _ H5.out.below
          have lw := H5.out.roww.lt
          have lg := H5.out.rowg.lt
          have c0 := H5.out.seat0.1
          have c1 := H5.out.seat1.1
          have k1 := (HB.out.2.1 (i + 1))
          have k2 := (HB.out.2.2 (i + 1))
          clear HF HB HY HM H2
          generalize wt (i + 1) a = ka at *
          generalize wt (i + 1) b = kb at *
          by_cases q1 : ka = 0
          · have r1 : (ka == 0) = true := by simpa using q1
            clear hst q1
            go_wp2_with fail
            go_roundg z
            case measure => omega
            case rel => exact ⟨i + 1, l, h, false, by go_num, rfl, rfl, by rw [hpn], rfl, by have := HIK.out; omega, Lib.hid (HZ.out.2.2.2.2 (i + 1) l h), H5⟩
          · have r1 : (ka == 0) = false := by simpa using q1
            by_cases q2 : kb = 0
            · have r2 : (kb == 0) = true := by simpa using q2
              clear hst q1 q2
              go_wp2_with fail
              go_roundg z
              case measure => omega
              case rel => exact ⟨i + 1, l, h, false, by go_num, rfl, rfl, by rw [hpn], rfl, by have := HIK.out; omega, Lib.hid (HZ.out.2.2.2.2 (i + 1) l h), H5⟩
            · have r2 : (kb == 0) = false := by simpa using q2
              obtain ⟨d, hd⟩ : ∃ d, g0 (i + 1) * vb - g1 (i + 1) * va = d := ⟨_, rfl⟩
              have hs := hst v l h HFi.out q1 q2 d hd
              have f0 := fairMul k1 hfb
              have f1 := fairMul k2 hfa
              have w0 : IntKind.i64.wrap (g0 (i + 1) * vb) = g0 (i + 1) * vb := wrap_in (by omega) (by omega)
              have w1 : IntKind.i64.wrap (g1 (i + 1) * va) = g1 (i + 1) * va := wrap_in (by omega) (by omega)
              have w2' : IntKind.i64.wrap (g0 (i + 1) * vb - g1 (i + 1) * va) = d := by rw [hd, wrap_in (by omega) (by omega)]
              clear hst q1 q2 HZ HXC
              go_upto_region 31 with fail
              go_quiet (fail)
              have H7 := Lib.hid (H5.out.later (below_drewN (Below.refl _ _) nq))
              clear H5 s1 s2 p0 p1 p2 c0 c1 lw lg r1 r2
              cases v with
              | false =>
                have H9 := Lib.hid (hs.2.1 rfl)
                have n1 : decide (1500 * (va + vb) < 0) = false := decide_eq_false (by omega)
                clear hs HFi
                go_upto_region 35 with fail
                generalize m5.drewN nq = m6 at *
                clear w0 w1 w2' f0 f1 hd
                go_wp2_with fail
                go_roundg z
                case measure => omega
                case rel => exact ⟨i + 1, d, d, true, by go_num, rfl, rfl, by rw [hpn], rfl, by have := HIK.out; omega, H9, H7⟩
              | true =>
                have j1 : min l d = if d < l then d else l := by split <;> omega
                have j2 : max h d = if h < d then d else h := by split <;> omega
                have H9 := hs.2.2 rfl
                rw [j1, j2] at H9
                replace H9 := Lib.hid (And.intro hs.1 H9)
                clear hs HFi j1 j2
                go_upto_region 35 with fail
                have t1 : -7200000 ≤ (if d < l then d else l) ∧ (if d < l then d else l) ≤ 7200000 := by have := H9.out; split <;> omega
                have t2 : -7200000 ≤ (if h < d then d else h) ∧ (if h < d then d else h) ≤ 7200000 := by have := H9.out; split <;> omega
                generalize (if d < l then d else l) = l2 at *
                generalize (if h < d then d else h) = h2 at *
                have n1 : IntKind.i64.wrap (h2 - l2) = h2 - l2 := wrap_in (by omega) (by omega)
                have n2 : decide (1500 * (va + vb) < h2 - l2) = false := decide_eq_false (by have := H9.out.2.2.2.2; omega)
                clear w0 w1 w2' f0 f1 hd
                generalize m5.drewN nq = m6 at *
                go_wp2_with fail
                go_roundg z
                case measure => omega
                case rel => exact ⟨i + 1, l2, h2, true, by go_num, rfl, rfl, by rw [hpn], rfl, by have := HIK.out; omega, Lib.hid H9.out.2.1, H7⟩
        · have hpl : pt i < sl := by rw [← HM.out.2.2.1]; exact lt_of_some hsx
          have f1 : (f : Int) < (n : Int) := by omega
          have p1 : decide ((sl : Int) ≤ (pt i : Int)) = false := decide_eq_false (by omega)
          have p2 : (pt i : Int) < (sl : Int) := by omega
          have ep : IntKind.i64.wrap ((pt i : Int) + 1) = (pt (i + 1) : Int) := by rw [hpn, wrap_in (by omega) (by omega)]; omega
          obtain ⟨b2, o2, rfl, l5, hsc⟩ := HJ.out.sent.at_ (by have := HM.out.2.2.1; omega)
          obtain ⟨d5, d6⟩ := hsc _ _ hsx
          have lw := HJ.out.roww.lt
          have lg := HJ.out.rowg.lt
          clear hsc hsx hpl
          go_upto_region 16 with fail
          change Code.wp _ _ _ _ (laidP wr 2 y bb)
          clear d0 d1 d2 d3
          generalize laidP wr 2 y bb = m0 at *
          go_upto_region 22 with fail
          change Code.wp _ _ _ _ (laidS m0 f c)
          clear d3' T0 T1 T2 TL
          obtain ⟨S0, S1, SB, SL⟩ := laidS_at m0 f c
          have HK := Lib.hid (HJ.out.later SB)
          have n3 : m0.heap.size ≠ gw := by omega
          have n4 : m0.heap.size ≠ gg := by omega
          clear HJ SB d5 d6 l5 lw lg
          generalize laidS m0 f c = m1 at *
          generalize m0.heap.size = gs at *
          obtain ⟨s1, s2⟩ := HK.out.seat hf
          have lw := HK.out.roww.lt
          have hwb := HB.out.1 i f
          have ew : IntKind.i64.wrap (wt i f - 1) = wt i f - 1 := wrap_in (by omega) (by omega)
          have HP := Lib.hid (HK.out.put f (wt i f - 1) (h' := wt (i + 1)) (fun j => by
            rw [h1]
            by_cases c : j = f
            · rw [if_pos c, if_pos c, c]
            · rw [if_neg c, if_neg c]))
          have HS : Hid (∀ u, (m1.setCell ⟨gw, f, none⟩ u).cell? ⟨gs, 0, none⟩ = some (.int .i64 (f : Int)) ∧ (m1.setCell ⟨gw, f, none⟩ u).cell? ⟨gs, 1, none⟩ = some (.int .i64 c) ∧ gs < (m1.setCell ⟨gw, f, none⟩ u).heap.size) := Lib.hid (fun u => by
            have hb := Below.heap_setCell m1 ⟨gw, f, none⟩ u gs n3
            exact ⟨(World.cell?_of_block hb).trans S0, (World.cell?_of_block hb).trans S1, by simpa [World.setCell] using SL⟩)
          clear h1 HK
          generalize wt i f = kf at *
          go_upto_region 24 with fail
          clear s1 s2 lw hwb ew S0 S1 SL p1 p2 ep
          obtain ⟨S0, S1, SL⟩ := HS.out (.int .i64 (kf - 1))
          clear HS
          generalize m1.setCell ⟨gw, f, none⟩ (.int .i64 (kf - 1)) = m2 at *
          have kk1 := HB.out.2.1 i
          have kk2 := HB.out.2.2 i
          obtain ⟨u0, u1⟩ := HP.out.seat0
          obtain ⟨u2, u3⟩ := HP.out.seat1
          have lg := HP.out.rowg.lt
          by_cases q : f = a
          · have q' : a = f := q.symm
            subst q'
            rw [if_pos rfl] at h2
            rw [if_neg hab] at h3
            have ew : IntKind.i64.wrap (g0 i + c) = g0 i + c := wrap_in (by omega) (by omega)
            have H5 := Lib.hid ((HP.out.put0 (g0 i + c)).congr (h' := wt (i + 1)) (fun _ => rfl) (y0 := g0 (i + 1)) (y1 := g1 (i + 1)) h2 h3)
            clear h2 h3
            go_upto_region 29 with fail
            clear S0 S1 SL u0 u1 u2 u3 lg HP ew kk1 kk2
            generalize m2.setCell ⟨gg, 0, none⟩ (.int .i64 (g0 i + c)) = m5 at *
            obtain ⟨s1, -⟩ := H5.out.seat ha
            obtain ⟨s2, -⟩ := H5.out.seat hb
            obtain ⟨p0, p1, p2⟩ := HXC.out _ H5.out.below
            have lw := H5.out.roww.lt
            have lg := H5.out.rowg.lt
            have c0 := H5.out.seat0.1
            have c1 := H5.out.seat1.1
            have k1 := (HB.out.2.1 (i + 1))
            have k2 := (HB.out.2.2 (i + 1))
            clear HF HB HY HM H2
            generalize wt (i + 1) a = ka at *
            generalize wt (i + 1) b = kb at *
            by_cases q1 : ka = 0
            · have r1 : (ka == 0) = true := by simpa using q1
              clear hst q1
              go_wp2_with fail
              go_roundg z
              case measure => omega
              case rel => exact ⟨i + 1, l, h, false, by go_num, rfl, rfl, by rw [hpn]; rfl, rfl, by have := HIK.out; omega, Lib.hid (HZ.out.2.2.2.2 (i + 1) l h), H5⟩
            · have r1 : (ka == 0) = false := by simpa using q1
              by_cases q2 : kb = 0
              · have r2 : (kb == 0) = true := by simpa using q2
                clear hst q1 q2
                go_wp2_with fail
                go_roundg z
                case measure => omega
                case rel => exact ⟨i + 1, l, h, false, by go_num, rfl, rfl, by rw [hpn]; rfl, rfl, by have := HIK.out; omega, Lib.hid (HZ.out.2.2.2.2 (i + 1) l h), H5⟩
              · have r2 : (kb == 0) = false := by simpa using q2
                obtain ⟨d, hd⟩ : ∃ d, g0 (i + 1) * vb - g1 (i + 1) * va = d := ⟨_, rfl⟩
                have hs := hst v l h HFi.out q1 q2 d hd
                have f0 := fairMul k1 hfb
                have f1 := fairMul k2 hfa
                have w0 : IntKind.i64.wrap (g0 (i + 1) * vb) = g0 (i + 1) * vb := wrap_in (by omega) (by omega)
                have w1 : IntKind.i64.wrap (g1 (i + 1) * va) = g1 (i + 1) * va := wrap_in (by omega) (by omega)
                have w2' : IntKind.i64.wrap (g0 (i + 1) * vb - g1 (i + 1) * va) = d := by rw [hd, wrap_in (by omega) (by omega)]
                clear hst q1 q2 HZ HXC
                go_upto_region 31 with fail
                go_quiet (fail)
                have H7 := Lib.hid (H5.out.later (below_drewN (Below.refl _ _) nq))
                clear H5 s1 s2 p0 p1 p2 c0 c1 lw lg r1 r2
                cases v with
                | false =>
                  have H9 := Lib.hid (hs.2.1 rfl)
                  have n1 : decide (1500 * (va + vb) < 0) = false := decide_eq_false (by omega)
                  clear hs HFi
                  go_upto_region 35 with fail
                  generalize m5.drewN nq = m6 at *
                  clear w0 w1 w2' f0 f1 hd
                  go_wp2_with fail
                  go_roundg z
                  case measure => omega
                  case rel => exact ⟨i + 1, d, d, true, by go_num, rfl, rfl, by rw [hpn]; rfl, rfl, by have := HIK.out; omega, H9, H7⟩
                | true =>
                  have j1 : min l d = if d < l then d else l := by split <;> omega
                  have j2 : max h d = if h < d then d else h := by split <;> omega
                  have H9 := hs.2.2 rfl
                  rw [j1, j2] at H9
                  replace H9 := Lib.hid (And.intro hs.1 H9)
                  clear hs HFi j1 j2
                  go_upto_region 35 with fail
                  have t1 : -7200000 ≤ (if d < l then d else l) ∧ (if d < l then d else l) ≤ 7200000 := by have := H9.out; split <;> omega
                  have t2 : -7200000 ≤ (if h < d then d else h) ∧ (if h < d then d else h) ≤ 7200000 := by have := H9.out; split <;> omega
                  generalize (if d < l then d else l) = l2 at *
                  generalize (if h < d then d else h) = h2 at *
                  have n1 : IntKind.i64.wrap (h2 - l2) = h2 - l2 := wrap_in (by omega) (by omega)
                  have n2 : decide (1500 * (va + vb) < h2 - l2) = false := decide_eq_false (by have := H9.out.2.2.2.2; omega)
                  clear w0 w1 w2' f0 f1 hd
                  generalize m5.drewN nq = m6 at *
                  go_wp2_with fail
                  go_roundg z
                  case measure => omega
                  case rel => exact ⟨i + 1, l2, h2, true, by go_num, rfl, rfl, by rw [hpn]; rfl, rfl, by have := HIK.out; omega, Lib.hid H9.out.2.1, H7⟩
          · have q1 : ((f : Int) == (a : Int)) = false := by rw [beq_eq_false_iff_ne]; omega
            rw [if_neg q] at h2
            by_cases q2 : f = b
            · have q' : b = f := q2.symm
              subst q'
              rw [if_pos rfl] at h3
              have ew : IntKind.i64.wrap (g1 i + c) = g1 i + c := wrap_in (by omega) (by omega)
              have H5 := Lib.hid ((HP.out.put1 (g1 i + c)).congr (h' := wt (i + 1)) (fun _ => rfl) (y0 := g0 (i + 1)) (y1 := g1 (i + 1)) h2 h3)
              clear h2 h3
              go_upto_region 29 with fail
              clear S0 S1 SL u0 u1 u2 u3 lg HP ew q1
              generalize m2.setCell ⟨gg, 1, none⟩ (.int .i64 (g1 i + c)) = m5 at *
              obtain ⟨s1, -⟩ := H5.out.seat ha
              obtain ⟨s2, -⟩ := H5.out.seat hb
              obtain ⟨p0, p1, p2⟩ := HXC.out _ H5.out.below
              have lw := H5.out.roww.lt
              have lg := H5.out.rowg.lt
              have c0 := H5.out.seat0.1
              have c1 := H5.out.seat1.1
              have k1 := (HB.out.2.1 (i + 1))
              have k2 := (HB.out.2.2 (i + 1))
              clear HF HB HY HM H2
              generalize wt (i + 1) a = ka at *
              generalize wt (i + 1) b = kb at *
              by_cases q1 : ka = 0
              · have r1 : (ka == 0) = true := by simpa using q1
                clear hst q1
                go_wp2_with fail
                go_roundg z
                case measure => omega
                case rel => exact ⟨i + 1, l, h, false, by go_num, rfl, rfl, by rw [hpn]; rfl, rfl, by have := HIK.out; omega, Lib.hid (HZ.out.2.2.2.2 (i + 1) l h), H5⟩
              · have r1 : (ka == 0) = false := by simpa using q1
                by_cases q2 : kb = 0
                · have r2 : (kb == 0) = true := by simpa using q2
                  clear hst q1 q2
                  go_wp2_with fail
                  go_roundg z
                  case measure => omega
                  case rel => exact ⟨i + 1, l, h, false, by go_num, rfl, rfl, by rw [hpn]; rfl, rfl, by have := HIK.out; omega, Lib.hid (HZ.out.2.2.2.2 (i + 1) l h), H5⟩
                · have r2 : (kb == 0) = false := by simpa using q2
                  obtain ⟨d, hd⟩ : ∃ d, g0 (i + 1) * vb - g1 (i + 1) * va = d := ⟨_, rfl⟩
                  have hs := hst v l h HFi.out q1 q2 d hd
                  have f0 := fairMul k1 hfb
                  have f1 := fairMul k2 hfa
                  have w0 : IntKind.i64.wrap (g0 (i + 1) * vb) = g0 (i + 1) * vb := wrap_in (by omega) (by omega)
                  have w1 : IntKind.i64.wrap (g1 (i + 1) * va) = g1 (i + 1) * va := wrap_in (by omega) (by omega)
                  have w2' : IntKind.i64.wrap (g0 (i + 1) * vb - g1 (i + 1) * va) = d := by rw [hd, wrap_in (by omega) (by omega)]
                  clear hst q1 q2 HZ HXC
                  go_upto_region 31 with fail
                  go_quiet (fail)
                  have H7 := Lib.hid (H5.out.later (below_drewN (Below.refl _ _) nq))
                  clear H5 s1 s2 p0 p1 p2 c0 c1 lw lg r1 r2
                  cases v with
                  | false =>
                    have H9 := Lib.hid (hs.2.1 rfl)
                    have n1 : decide (1500 * (va + vb) < 0) = false := decide_eq_false (by omega)
                    clear hs HFi
                    go_upto_region 35 with fail
                    generalize m5.drewN nq = m6 at *
                    clear w0 w1 w2' f0 f1 hd
                    go_wp2_with fail
                    go_roundg z
                    case measure => omega
                    case rel => exact ⟨i + 1, d, d, true, by go_num, rfl, rfl, by rw [hpn]; rfl, rfl, by have := HIK.out; omega, H9, H7⟩
                  | true =>
                    have j1 : min l d = if d < l then d else l := by split <;> omega
                    have j2 : max h d = if h < d then d else h := by split <;> omega
                    have H9 := hs.2.2 rfl
                    rw [j1, j2] at H9
                    replace H9 := Lib.hid (And.intro hs.1 H9)
                    clear hs HFi j1 j2
                    go_upto_region 35 with fail
                    have t1 : -7200000 ≤ (if d < l then d else l) ∧ (if d < l then d else l) ≤ 7200000 := by have := H9.out; split <;> omega
                    have t2 : -7200000 ≤ (if h < d then d else h) ∧ (if h < d then d else h) ≤ 7200000 := by have := H9.out; split <;> omega
                    generalize (if d < l then d else l) = l2 at *
                    generalize (if h < d then d else h) = h2 at *
                    have n1 : IntKind.i64.wrap (h2 - l2) = h2 - l2 := wrap_in (by omega) (by omega)
                    have n2 : decide (1500 * (va + vb) < h2 - l2) = false := decide_eq_false (by have := H9.out.2.2.2.2; omega)
                    clear w0 w1 w2' f0 f1 hd
                    generalize m5.drewN nq = m6 at *
                    go_wp2_with fail
                    go_roundg z
                    case measure => omega
                    case rel => exact ⟨i + 1, l2, h2, true, by go_num, rfl, rfl, by rw [hpn]; rfl, rfl, by have := HIK.out; omega, Lib.hid H9.out.2.1, H7⟩
            · have q3 : ((f : Int) == (b : Int)) = false := by rw [beq_eq_false_iff_ne]; omega
              rw [if_neg q2] at h3
              have H5 := Lib.hid (HP.out.congr (h' := wt (i + 1)) (fun _ => rfl) (y0 := g0 (i + 1)) (y1 := g1 (i + 1)) h2 h3)
              clear h2 h3
              go_upto_region 29 with fail
              clear S0 S1 SL u0 u1 u2 u3 lg HP q1 q3 q q2
              generalize m2 = m5 at *
              obtain ⟨s1, -⟩ := H5.out.seat ha
              obtain ⟨s2, -⟩ := H5.out.seat hb
              obtain ⟨p0, p1, p2⟩ := HXC.out _ H5.out.below
              have lw := H5.out.roww.lt
              have lg := H5.out.rowg.lt
              have c0 := H5.out.seat0.1
              have c1 := H5.out.seat1.1
              have k1 := (HB.out.2.1 (i + 1))
              have k2 := (HB.out.2.2 (i + 1))
              clear HF HB HY HM H2
              generalize wt (i + 1) a = ka at *
              generalize wt (i + 1) b = kb at *
              by_cases q1 : ka = 0
              · have r1 : (ka == 0) = true := by simpa using q1
                clear hst q1
                go_wp2_with fail
                go_roundg z
                case measure => omega
                case rel => exact ⟨i + 1, l, h, false, by go_num, rfl, rfl, by rw [hpn]; rfl, rfl, by have := HIK.out; omega, Lib.hid (HZ.out.2.2.2.2 (i + 1) l h), H5⟩
              · have r1 : (ka == 0) = false := by simpa using q1
                by_cases q2 : kb = 0
                · have r2 : (kb == 0) = true := by simpa using q2
                  clear hst q1 q2
                  go_wp2_with fail
                  go_roundg z
                  case measure => omega
                  case rel => exact ⟨i + 1, l, h, false, by go_num, rfl, rfl, by rw [hpn]; rfl, rfl, by have := HIK.out; omega, Lib.hid (HZ.out.2.2.2.2 (i + 1) l h), H5⟩
                · have r2 : (kb == 0) = false := by simpa using q2
                  obtain ⟨d, hd⟩ : ∃ d, g0 (i + 1) * vb - g1 (i + 1) * va = d := ⟨_, rfl⟩
                  have hs := hst v l h HFi.out q1 q2 d hd
                  have f0 := fairMul k1 hfb
                  have f1 := fairMul k2 hfa
                  have w0 : IntKind.i64.wrap (g0 (i + 1) * vb) = g0 (i + 1) * vb := wrap_in (by omega) (by omega)
                  have w1 : IntKind.i64.wrap (g1 (i + 1) * va) = g1 (i + 1) * va := wrap_in (by omega) (by omega)
                  have w2' : IntKind.i64.wrap (g0 (i + 1) * vb - g1 (i + 1) * va) = d := by rw [hd, wrap_in (by omega) (by omega)]
                  clear hst q1 q2 HZ HXC
                  go_upto_region 31 with fail
                  go_quiet (fail)
                  have H7 := Lib.hid (H5.out.later (below_drewN (Below.refl _ _) nq))
                  clear H5 s1 s2 p0 p1 p2 c0 c1 lw lg r1 r2
                  cases v with
                  | false =>
                    have H9 := Lib.hid (hs.2.1 rfl)
                    have n1 : decide (1500 * (va + vb) < 0) = false := decide_eq_false (by omega)
                    clear hs HFi
                    go_upto_region 35 with fail
                    generalize m5.drewN nq = m6 at *
                    clear w0 w1 w2' f0 f1 hd
                    go_wp2_with fail
                    go_roundg z
                    case measure => omega
                    case rel => exact ⟨i + 1, d, d, true, by go_num, rfl, rfl, by rw [hpn]; rfl, rfl, by have := HIK.out; omega, H9, H7⟩
                  | true =>
                    have j1 : min l d = if d < l then d else l := by split <;> omega
                    have j2 : max h d = if h < d then d else h := by split <;> omega
                    have H9 := hs.2.2 rfl
                    rw [j1, j2] at H9
                    replace H9 := Lib.hid (And.intro hs.1 H9)
                    clear hs HFi j1 j2
                    go_upto_region 35 with fail
                    have t1 : -7200000 ≤ (if d < l then d else l) ∧ (if d < l then d else l) ≤ 7200000 := by have := H9.out; split <;> omega
                    have t2 : -7200000 ≤ (if h < d then d else h) ∧ (if h < d then d else h) ≤ 7200000 := by have := H9.out; split <;> omega
                    generalize (if d < l then d else l) = l2 at *
                    generalize (if h < d then d else h) = h2 at *
                    have n1 : IntKind.i64.wrap (h2 - l2) = h2 - l2 := wrap_in (by omega) (by omega)
                    have n2 : decide (1500 * (va + vb) < h2 - l2) = false := decide_eq_false (by have := H9.out.2.2.2.2; omega)
                    clear w0 w1 w2' f0 f1 hd
                    generalize m5.drewN nq = m6 at *
                    go_wp2_with fail
                    go_roundg z
                    case measure => omega
                    case rel => exact ⟨i + 1, l2, h2, true, by go_num, rfl, rfl, by rw [hpn]; rfl, rfl, by have := HIK.out; omega, Lib.hid H9.out.2.1, H7⟩
end Go.Proofs.Ytobkepipmmkboaa
