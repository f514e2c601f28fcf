/- The reference's OPlay. -/
import Derived.Test.YtobkepipmmkboaaScP0
namespace Go.Proofs.Ytobkepipmmkboaa
open Go.RowKit Go.Maps

theorem results_three {fn : Func} (a b c : Tmp) (h : fn.results = #[.tmp a, .tmp b, .tmp c]) (tmps : Array Value) (w : World) :
    (results fn tmps).run Try.prog w = .ok (.tuple #[tmps.getD a undef, tmps.getD b undef, tmps.getD c undef]) w := by
  simp only [results, h]
  simp
/-- What OPlay answers. -/
def OutR (w : World) (E : List Int) (S : List (Nat × Int)) (L : List Int) (e : Ending) (w' : World) : Prop :=
  ∃ A cA B cB D cD, e = .returned (.tuple #[.slice A E.length cA, .slice B S.length cB, .slice D L.length cD]) ∧ IntsIn w' A E ∧ SentIn w' B S ∧ IntsIn w' D L ∧ Below w.heap.size w w'
theorem cnt_le (f : Nat) (l : List (Nat × Int × Int)) (i : Nat) : cntO f l i ≤ i := by
  unfold cntO ofl
  exact Nat.le_trans (List.length_filterMap_le _ _) (by rw [List.length_take]; omega)
set_option maxRecDepth 100000 in
set_option maxHeartbeats 32000000 in
theorem oPlay_any {w : World} {P Q : Option Addr} {xs : List Int} {os : List (Int × Int × Int)} (hx : IntsIn w P xs) (hy : ThreeIn w Q os) (hR : Right xs) (hm : os.length ≤ 400) (cx cy : Nat) :
    Calls Try.prog 10 #[.slice P xs.length cx, .slice Q os.length cy] w (OutR w (scRun (uW xs) xs.length os).errs (scRun (uW xs) xs.length os).sent (leftL xs.length (scRun (uW xs) xs.length os).st)) := by
  obtain ⟨n, hn⟩ : ∃ n, xs.length = n := ⟨_, rfl⟩
  obtain ⟨m, hom⟩ : ∃ m, os.length = m := ⟨_, rfl⟩
  have hn16 : n ≤ 16 := by rw [← hn]; exact hR.few
  have hm4 : m ≤ 400 := by omega
  have HAT : Hid (∀ i, (scRun (uW xs) n (os.take i)).errs.length ≤ 1000 ∧ (scRun (uW xs) n (os.take i)).sent.length ≤ 1000 ∧ (scRun (uW xs) n (os.take i)).st.Low 400 ∧ (scRun (uW xs) n (os.take i)).st.Good (uW xs) n) := Lib.hid (fun i => by
    have := scRun_at hR hm i
    rw [hn] at this
    exact ⟨by omega, by omega, this.1, this.2.2.2⟩)
  have HX := Lib.hid (fun W (hW : Below w.heap.size w W) => hy.below hW)
  have HXW := Lib.hid (fun W (hW : Below w.heap.size w W) => hx.below hW)
  have HST := Lib.hid (fun i o (h : os[i]? = some o) => scRun_succ (uW xs) n h)
  have HU : Hid (∀ k, k < n → 1 ≤ fn xs k ∧ fn xs k ≤ 12 ∧ uW xs k * fn xs k = 27720 ∧ 0 ≤ uW xs k ∧ uW xs k ≤ 27720) := Lib.hid (fun k hk => ⟨(hR.fn (by omega)).1, (hR.fn (by omega)).2, uW_mul hR (by omega), (uW_bounds hR k).1, (uW_bounds hR k).2⟩)
  have HU0 : Hid (∀ k, 0 ≤ uW xs k) := Lib.hid (fun k => (uW_bounds hR k).1)
  have HN := Lib.hid hn
  have HM := Lib.hid hom
  have HTK : Hid (os.take m = os) := Lib.hid (List.take_of_length_le (by omega))
  have hmk := run_make_row' (P := Try.prog) 22 3 (.int .i64 0) 8 Try.underlying22 info_int8 rfl .i64 .i64 n (by omega) (by omega)
  have hmm : ∀ W : World, (Instr.makeMap 54 none).run Try.prog W = .ok (.map (some W.heap.size)) (W.alloc (.map #[] 0)) := fun W => by kernel_rfl
  have H0 : Hid (PI w (w.alloc (.map #[] 0)) w.heap.size 0 n (.slice none 0 0) (.slice none 0 0) (.slice none 0 0) [] (scRun (uW xs) n (os.take 0))) := Lib.hid (PI.start w n)
  rw [hn, hom]
  clear hx hy hR hm hn hom
  go_enter Try.func10, Try.ntmps10
  go_upto_region 3 with fail
  obtain ⟨mb, hmb⟩ : ∃ mb, w.heap.size = mb := ⟨_, rfl⟩
  rw [hmb] at H0 ⊢
  generalize w.alloc (.map #[] 0) = w1 at *
  clear hmb hmm
  go_wp2_with fail
  go_loopg [26, 7, 9, 10, 11] m (fun z c vl tv ve vs wi => ∃ (i : Nat) (l : List (Nat × Int × Int)), c = .int .i64 (i : Int) ∧ i + z = m ∧ tv = .int .i64 (scRun (uW xs) n (os.take i)).st.tm ∧ Hid (PI w wi mb i n vl ve vs l (scRun (uW xs) n (os.take i))))
  case atStart => exact ⟨0, [], rfl, by omega, rfl, H0⟩
  case round =>
    clear H0
    obtain ⟨i, l, rfl, hiz, rfl, HI⟩ := hrel
    obtain ⟨A, cap, rfl, hle, hTl⟩ := HI.out.mem.form
    obtain ⟨q, hq⟩ : ∃ q, l.length = q := ⟨_, rfl⟩
    have HTL := Lib.hid (And.intro hTl hq)
    have hq4 : q ≤ 400 := by rw [← hq]; have := HI.out.few; omega
    have hle : q ≤ cap := by rw [← hq]; exact hle
    cases gk with
    | zero =>
      obtain rfl : i = m := by omega
      rw [HTK.out] at HI
      obtain ⟨Ae, ce, rfl, hE⟩ := HI.out.mem.errs.form (by have := (HAT.out i).1; rw [HTK.out] at this; omega)
      obtain ⟨As, cs, rfl, hS⟩ := HI.out.mem.sent.form
      have HLT : Hid (∀ k, k < q → (atO l k).1 < n) := Lib.hid (fun k hk => HI.out.one.lt _ (List.mem_of_getElem? (get_atO (by rw [hq]; exact hk))))
      have HZ : Hid (∀ W g, RowI wr W g n (fun j => (cntO j l q : Int)) → OutR w (scRun (uW xs) n os).errs (scRun (uW xs) n os).sent (leftL n (scRun (uW xs) n os).st) (.returned (.tuple #[.slice Ae (scRun (uW xs) n os).errs.length ce, .slice As (scRun (uW xs) n os).sent.length cs, .slice (some ⟨g, 0, none⟩) n n])) W) := Lib.hid (fun W g I => ⟨Ae, ce, As, cs, some ⟨g, 0, none⟩, n, by rw [leftL_length], hE.below I.below, hS.below I.below, (I.congr fun j _ => by rw [← hq]; unfold cntO; rw [List.take_length, HI.out.one.q j]).ints hn16, HI.out.mem.below.trans (I.below.mono HI.out.mem.below.size)⟩)
      rw [hq]
      clear HX HXW HST HU HU0 HAT HN HM HTK hE hS hTl hq HI hm4 hiz
      generalize OutR w (scRun (uW xs) n os).errs (scRun (uW xs) n os).sent (leftL n (scRun (uW xs) n os).st) = D at *
      generalize (scRun (uW xs) n os).errs.length = el at *
      generalize (scRun (uW xs) n os).sent.length = sl at *
      generalize (scRun (uW xs) n os).st.tm = tm at *
      go_upto_region 37 with fail
      have HL := Lib.hid (RowI.start (Below.refl wr.heap.size wr) n)
      generalize wr.alloc (.cells (madeCells #[.int .i64 0] n) 3) = w2 at *
      obtain ⟨g, hg⟩ : ∃ g, wr.heap.size = g := ⟨_, rfl⟩
      rw [hg] at HL ⊢
      clear hg hmk
      generalize wr = wz at *
      go_wp2_with fail
      go_loopg [189] q (fun z c wi => ∃ k : Nat, c = .int .i64 (k : Int) ∧ k + z = q ∧ Hid (RowI wz wi g n (fun j => (cntO j l k : Int))))
      case atStart => exact ⟨0, rfl, by omega, Lib.hid (HL.out.congr fun j _ => rfl)⟩
      case round =>
        clear HL
        obtain ⟨k, rfl, hkz, HK⟩ := hrel
        cases gk with
        | zero =>
          obtain rfl : k = q := by omega
          have HR := Lib.hid (HZ.out _ g HK.out)
          clear HK HZ HTL HLT
          go_wp2_with fail
          exact bodyPost_ret (results_three 4 5 6 rfl _ _) rfl HR.out
        | succ z =>
          have hk : k < q := by omega
          have i1 : (k : Int) < (q : Int) := by omega
          have hx := triO_at (l := l) (i := k) (by rw [HTL.out.2]; exact hk)
          obtain ⟨b1, off, a0, a1, a2, rfl, hx2, ⟨c0, c1, c2⟩, hbl⟩ := (HTL.out.1.below HK.out.below).next (i := k) (by rw [triO_length, HTL.out.2]; exact hk)
          rw [hx] at hx2
          obtain ⟨f, hf⟩ : ∃ f, (atO l k).1 = f := ⟨_, rfl⟩
          have hfn : f < n := by rw [← hf]; exact HLT.out k hk
          rw [hf] at hx2
          simp only [Option.some.injEq, Prod.mk.injEq] at hx2
          obtain ⟨rfl, -, -⟩ := hx2
          have hfi : (f : Int) < (n : Int) := by omega
          obtain ⟨q0, q1⟩ := HK.out.seat hfn
          have q2 := HK.out.row.lt
          have hcb := cnt_le f l k
          have HM : Hid (∀ ob, RowI wz ((wr.setCell ⟨g, f, none⟩ (.int .i64 ((cntO f l k : Int) + 1))).alloc ob) g n (fun j => (cntO j l (k + 1) : Int))) := Lib.hid (fun ob => ((HK.out.put f _).later ((Below.refl _ _).alloc (Nat.le_refl _) ob)).congr fun j _ => by
            rw [cntO_succ j (get_atO (l := l) (i := k) (by rw [HTL.out.2]; exact hk)), hf]
            by_cases e : j = f
            · subst e
              rw [if_pos rfl, if_pos rfl, Int.natCast_add]
              rfl
            · rw [if_neg e, if_neg (fun e2 => e e2.symm), Nat.add_zero])
          clear HK HZ HTL HLT hf hx
          generalize cntO f l k = cf at *
          go_wp2_with fail
          go_roundg z
          case measure => omega
          case rel => exact ⟨k + 1, by go_num, by omega, HM.out _⟩
    | succ z =>
      have hi : i < m := by omega
      have i1 : (i : Int) < (m : Int) := by omega
      obtain ⟨b0, off, x, y, u, rfl, hx, ⟨hat0, hat1, hat2⟩, hbl⟩ := (HX.out _ HI.out.mem.below).next (i := i) (by rw [HM.out]; exact hi)
      have HS := Lib.hid (HST.out i _ hx)
      have HB := Lib.hid (HAT.out i)
      have HB2 := Lib.hid (HAT.out (i + 1)).2.2.1
      obtain ⟨T0, T1, T2, TB, TL⟩ := laid3_cells wr 40 x y u
      have H4 := Lib.hid (HI.out.later TB)
      have hgm : wr.heap.size ≠ mb := fun e => by have := HI.out.mem.map.lt; omega
      have HTL : Hid (ThreeIn (laid3 wr 40 x y u) A (triO l) ∧ l.length = q) := Lib.hid ⟨HTL.out.1.below TB, HTL.out.2⟩
      rw [hq]
      rw [hq] at H4
      clear HI hx hTl hmk TB
      generalize scRun (uW xs) n (os.take i) = t at *
      go_upto_region 21 with fail
      change Code.wp _ _ _ _ (laid3 wr 40 x y u)
      clear hat0 hat1 hat2 hbl
      generalize laid3 wr 40 x y u = m0 at *
      generalize wr.heap.size = gx at *
      by_cases k1 : x = 1
      · subst k1
        by_cases c0 : y < 0
        · have g0 : decide (y < 0) = true := decide_eq_true c0
          obtain ⟨ve', W, hr, hp, htm⟩ := H4.out.bad HS.out HB.out.1 (e := 3) (by unfold scErr; dsimp only; rw [if_pos rfl, if_pos (Or.inl c0)]) (by decide)
          have HR := Lib.hid hr
          have HP := Lib.hid (And.intro hp htm)
          clear hr hp htm H4 HS HX HXW HAT HST HU HU0 HTK HB HB2 HTL HN HM
          go_wp2_with (at_builtin; refine wpList_append_g rfl (.tmp 179) (.tmp 181) 24 24 rfl rfl rfl (HR.out _) ?_)
          clear HR
          go_wp2_with fail
          go_roundg z
          case measure => omega
          case rel => exact ⟨i + 1, l, by go_num, by omega, by rw [HP.out.2], Lib.hid HP.out.1⟩
        have g0 : decide (y < 0) = false := decide_eq_false c0
        by_cases c1 : (n : Int) ≤ y
        · have g1 : decide ((n : Int) ≤ y) = true := decide_eq_true c1
          obtain ⟨ve', W, hr, hp, htm⟩ := H4.out.bad HS.out HB.out.1 (e := 3) (by unfold scErr; dsimp only; rw [if_pos rfl, if_pos (Or.inr c1)]) (by decide)
          have HR := Lib.hid hr
          have HP := Lib.hid (And.intro hp htm)
          clear hr hp htm H4 HS HX HXW HAT HST HU HU0 HTK HB HB2 HTL HN HM
          go_wp2_with (at_builtin; refine wpList_append_g rfl (.tmp 179) (.tmp 181) 24 24 rfl rfl rfl (HR.out _) ?_)
          clear HR
          go_wp2_with fail
          go_roundg z
          case measure => omega
          case rel => exact ⟨i + 1, l, by go_num, by omega, by rw [HP.out.2], Lib.hid HP.out.1⟩
        by_cases c2 : u < 1
        · have g1 : decide ((n : Int) ≤ y) = false := decide_eq_false c1
          have g2 : decide (u < 1) = true := decide_eq_true c2
          obtain ⟨ve', W, hr, hp, htm⟩ := H4.out.bad HS.out HB.out.1 (e := 2) (by unfold scErr; dsimp only; rw [if_pos rfl, if_neg (by omega), if_pos (Or.inl c2)]) (by decide)
          have HR := Lib.hid hr
          have HP := Lib.hid (And.intro hp htm)
          clear hr hp htm H4 HS HX HXW HAT HST HU HU0 HTK HB HB2 HTL HN HM
          go_wp2_with (at_builtin; refine wpList_append_g rfl (.tmp 179) (.tmp 181) 24 24 rfl rfl rfl (HR.out _) ?_)
          clear HR
          go_wp2_with fail
          go_roundg z
          case measure => omega
          case rel => exact ⟨i + 1, l, by go_num, by omega, by rw [HP.out.2], Lib.hid HP.out.1⟩
        have g2 : decide (u < 1) = false := decide_eq_false c2
        by_cases c3 : 1500 < u
        · have g1 : decide ((n : Int) ≤ y) = false := decide_eq_false c1
          have g3 : decide (1500 < u) = true := decide_eq_true c3
          obtain ⟨ve', W, hr, hp, htm⟩ := H4.out.bad HS.out HB.out.1 (e := 2) (by unfold scErr; dsimp only; rw [if_pos rfl, if_neg (by omega), if_pos (Or.inr c3)]) (by decide)
          have HR := Lib.hid hr
          have HP := Lib.hid (And.intro hp htm)
          clear hr hp htm H4 HS HX HXW HAT HST HU HU0 HTK HB HB2 HTL HN HM
          go_wp2_with (at_builtin; refine wpList_append_g rfl (.tmp 179) (.tmp 181) 24 24 rfl rfl rfl (HR.out _) ?_)
          clear HR
          go_wp2_with fail
          go_roundg z
          case measure => omega
          case rel => exact ⟨i + 1, l, by go_num, by omega, by rw [HP.out.2], Lib.hid HP.out.1⟩
        have g3 : decide (1500 < u) = false := decide_eq_false c3
        obtain ⟨f, rfl⟩ : ∃ f : Nat, y = (f : Int) := ⟨y.toNat, by omega⟩
        have hf : f < n := by omega
        have hfi : (f : Int) < (n : Int) := by omega
        have g1 : decide ((n : Int) ≤ (f : Int)) = false := decide_eq_false c1
        have g1' : decide (n ≤ f) = false := decide_eq_false (by omega)
        obtain ⟨bw, ow, wf, rfl, hwx, hwat, hwl⟩ := (HXW.out m0 H4.out.mem.below).next (i := f) (by rw [HN.out]; exact hf)
        obtain ⟨u1, u2, u3, u4, u5⟩ := HU.out f hf
        rw [fn_at hwx] at u1 u2 u3
        have hla := HB.out.2.2.1.last f
        have htm := HB.out.2.2.1.tm
        have L0 := H4.out.mem.map.look (f := f) (by omega)
        have hG2 : t.st.tag (uW xs) f u = max t.st.tm (t.st.last f) + uW xs f * u := rfl
        obtain ⟨G, hG⟩ : ∃ G, t.st.tag (uW xs) f u = G := ⟨_, rfl⟩
        have hG3 := Lib.hid hG
        rw [hG] at hG2
        generalize uW xs f = U at *
        have p0 : 0 ≤ U * u ∧ U * u ≤ 27720 * 1500 := ⟨Int.mul_nonneg u4 (by omega), Int.mul_le_mul u5 (by omega) (by omega) (by decide)⟩
        have em : 27720 * u = U * u * wf := by rw [← u3, Int.mul_assoc, Int.mul_comm wf u, Int.mul_assoc]
        have e1 : IntKind.i64.wrap (27720 * u) = 27720 * u := wrap_in (by omega) (by omega)
        have e2 : (27720 * u).tdiv wf = U * u := by rw [em]; exact Int.mul_tdiv_cancel _ (by omega)
        have e3 : 27720 * u / wf = U * u := by rw [em]; exact Int.mul_ediv_cancel _ (by omega)
        have w0 : (wf == 0) = false := by rw [beq_eq_false_iff_ne]; omega
        obtain ⟨R, hRe⟩ : ∃ R, U * u = R := ⟨_, rfl⟩
        rw [hRe] at p0 e2 e3 hG2
        have e4 : IntKind.i64.wrap R = R := wrap_in (by omega) (by omega)
        obtain ⟨W1, r1, L1, kk, sz, vl', W2, r2, ve', W3, r3, hp, htm2⟩ := (H4.out.later (Below.refl m0.heap.size m0).drew).come HS.out HB.out.1 (by omega) hf hn16 (by omega) hG3.out (by omega) (by omega)
        have T0' := (World.cell?_of_block (a := ⟨gx, 0, none⟩) (kk gx TL hgm)).trans T0
        have T1' := (World.cell?_of_block (a := ⟨gx, 1, none⟩) (kk gx TL hgm)).trans T1
        have T2' := (World.cell?_of_block (a := ⟨gx, 2, none⟩) (kk gx TL hgm)).trans T2
        have TL' : gx < W1.heap.size := Nat.lt_of_lt_of_le TL sz
        have HL2 := Lib.hid r2
        have HR := Lib.hid r3
        have HP := Lib.hid (And.intro hp htm2)
        have wp : 0 < wf := by omega
        have w1 : ¬ wf = 0 := by omega
        clear r2 r3 hp htm2 H4 HS HX HXW HAT HST HU HU0 HTK HB HB2 HTL HN HM kk sz hG hG3 em u3 hwx hRe
        generalize t.st.last f = la at *
        generalize t.st.tm = tm at *
        by_cases cm : tm < la
        · have dm : decide (tm < la) = true := decide_eq_true cm
          have eG : IntKind.i64.wrap (la + R) = G := by rw [show la + R = G by omega]; exact wrap_in (by omega) (by omega)
          clear hG2
          go_upto_region 32 with fail
          go_region
          all_goals
            clear T0 T1 T2 r1 L0 e1 e2 e3 e4 eG
            go_wp2_with (first | (at_builtin; refine wpList_append_g rfl (.tmp 167) (.tmp 177) 53 53 rfl rfl rfl (HL2.out _) ?_) | (at_builtin; refine wpList_append_g rfl (.tmp 179) (.tmp 181) 24 24 rfl rfl rfl (HR.out _) ?_))
            go_wp2_with fail
            go_roundg z
            case measure => omega
            case rel => exact ⟨i + 1, l ++ [(f, u, G)], by go_num, by omega, by rw [HP.out.2], Lib.hid HP.out.1⟩
        · have dm : decide (tm < la) = false := decide_eq_false cm
          have eG : IntKind.i64.wrap (tm + R) = G := by rw [show tm + R = G by omega]; exact wrap_in (by omega) (by omega)
          clear hG2
          go_upto_region 32 with fail
          go_region
          all_goals
            clear T0 T1 T2 r1 L0 e1 e2 e3 e4 eG
            go_wp2_with (first | (at_builtin; refine wpList_append_g rfl (.tmp 167) (.tmp 177) 53 53 rfl rfl rfl (HL2.out _) ?_) | (at_builtin; refine wpList_append_g rfl (.tmp 179) (.tmp 181) 24 24 rfl rfl rfl (HR.out _) ?_))
            go_wp2_with fail
            go_roundg z
            case measure => omega
            case rel => exact ⟨i + 1, l ++ [(f, u, G)], by go_num, by omega, by rw [HP.out.2], Lib.hid HP.out.1⟩
      · by_cases k2 : x = 2
        · subst k2
          by_cases hq0 : q = 0
          · have z0 : ((q : Int) == 0) = true := by rw [hq0]; rfl
            have hnil : bestF t.st.q n = none := H4.out.one.none.1 (List.eq_nil_of_length_eq_zero (by rw [HTL.out.2]; exact hq0))
            clear hq0
            obtain ⟨ve', W, hr, hp, htm⟩ := H4.out.bad HS.out HB.out.1 (e := 3) (by unfold scErr; dsimp only; rw [if_neg (by decide), if_pos rfl, if_pos hnil]) (by decide)
            have HR := Lib.hid hr
            have HP := Lib.hid (And.intro hp htm)
            clear hr hp htm H4 HS HX HXW HAT HST HU HU0 HTK HB HB2 HTL HN HM
            go_wp2_with (at_builtin; refine wpList_append_g rfl (.tmp 179) (.tmp 181) 24 24 rfl rfl rfl (HR.out _) ?_)
            clear HR
            go_wp2_with fail
            go_roundg z
            case measure => omega
            case rel => exact ⟨i + 1, l, by go_num, by omega, by rw [HP.out.2], Lib.hid HP.out.1⟩
          · have z0 : ((q : Int) == 0) = false := beq_eq_false_iff_ne.2 (by omega)
            have h0q : 0 < q := by omega
            have HL0 : Hid (Below m0.heap.size m0 m0) := Lib.hid (Below.refl _ _)
            clear HX HXW HAT HST HU HTK HN HM T1 T2
            go_wp2_with fail
            go_loopg [32, 16] q (fun z c bv wi => ∃ k : Nat, c = .int .i64 (k : Int) ∧ k + z = q ∧ bv = .int .i64 (bstI l k : Int) ∧ Hid (Below m0.heap.size m0 wi))
            case atStart => exact ⟨0, rfl, by omega, rfl, HL0⟩
            case round =>
              clear HL0
              obtain ⟨k, rfl, hkz, rfl, HK⟩ := hrel
              have hbk : bstI l k < q := by have := bstI_in (l := l) (i := k) (by rw [HTL.out.2]; omega) (by rw [HTL.out.2]; omega); rw [HTL.out.2] at this; exact this
              have hbi : (bstI l k : Int) < (q : Int) := by omega
              have hx1 := triO_at (l := l) (i := bstI l k) (by rw [HTL.out.2]; exact hbk)
              obtain ⟨b1, o1, y0, y1, y2, rfl, hx2, ⟨c0, c1, c2⟩, hl1⟩ := (HTL.out.1.below HK.out).next (i := bstI l k) (by rw [triO_length, HTL.out.2]; exact hbk)
              rw [hx1] at hx2
              cases gk with
              | zero =>
                obtain rfl : k = q := by omega
                obtain ⟨f, b, g, hfbg⟩ : ∃ f b g, atO l (bstI l k) = (f, b, g) := ⟨_, _, _, rfl⟩
                rw [hfbg] at hx2
                simp only [Option.some.injEq, Prod.mk.injEq] at hx2
                obtain ⟨rfl, rfl, rfl⟩ := hx2
                obtain ⟨S0, S1, S2, SB, SL⟩ := laid3_cells wr 56 f b g
                obtain ⟨vs', W1, r1, A1, A2, c2', v1, v2, W2, W3, s1, s2, r3, r4, ve', W4, r5, hp, htm2⟩ := ((H4.out.later HK.out).later SB).send HTL.out.2 HB.out.2.2.2 HU0.out HS.out HB.out.1 HB.out.2.1 (by omega) hle h0q hfbg
                have HS1 := Lib.hid r1
                have HA1 := Lib.hid r3
                have HA2 := Lib.hid r4
                have HR := Lib.hid r5
                have HP := Lib.hid (And.intro hp htm2)
                clear r1 r3 r4 r5 hp htm2 H4 HS HB HB2 HU0 HTL HK hfbg hx1 SB T0 TL
                generalize hll : l.take (bstI l k) ++ l.drop (bstI l k + 1) = l2 at HP
                clear hll
                generalize bstI l k = bk at *
                have ebk : IntKind.i64.wrap ((bk : Int) + 1) = (bk : Int) + 1 := wrap_in (by omega) (by omega)
                go_upto_region 18 with fail
                change Code.wp _ _ _ _ (laid3 wr 56 f b g)
                clear c0 c1 c2 hl1
                generalize laid3 wr 56 f b g = m1 at *
                generalize wr.heap.size = gy at *
                go_upto_region 20 with (at_builtin; refine wpList_append_g rfl (.tmp 73) (.tmp 79) 25 25 rfl rfl rfl (HS1.out _) ?_)
                go_region_law (first | (refine step_append_g rfl (.tmp 81) (.tmp 84) 53 rfl (by rfl) (by rfl) (HA1.out _) ?_) | (refine step_append_g rfl (.tmp 85) (.tmp 89) 53 rfl (by rfl) (by rfl) (HA2.out _) ?_))
                all_goals
                  clear S0 S1 S2 SL s1 s2 HS1 HA1 HA2
                  go_wp2_with (at_builtin; refine wpList_append_g rfl (.tmp 179) (.tmp 181) 24 24 rfl rfl rfl (HR.out _) ?_)
                  clear HR
                  go_wp2_with fail
                  go_roundg z
                  case measure => omega
                  case rel => exact ⟨i + 1, l2, by go_num, by omega, by rw [HP.out.2], Lib.hid HP.out.1⟩
              | succ z2 =>
                have hk : k < q := by omega
                have i2 : (k : Int) < (q : Int) := by omega
                have hx3 := triO_at (l := l) (i := k) (by rw [HTL.out.2]; exact hk)
                obtain ⟨b2, o2, x0, x1, x2, e, hx4, ⟨d0, d1, d2⟩, hl2⟩ := (HTL.out.1.below HK.out).next (i := k) (by rw [triO_length, HTL.out.2]; exact hk)
                simp only [Option.some.injEq, Addr.mk.injEq, and_true] at e
                obtain ⟨rfl, rfl⟩ := e
                rw [hx3] at hx4
                have HSC := Lib.hid (bstI_succ l k)
                clear hx1 hx3 H4 HS HB HB2 HU0
                generalize atO l (bstI l k) = yy at *
                generalize atO l k = xx at *
                obtain ⟨yf, yb, yt⟩ := yy
                obtain ⟨xf, xb, xt⟩ := xx
                simp only [Option.some.injEq, Prod.mk.injEq] at hx2 hx4
                obtain ⟨rfl, rfl, rfl⟩ := hx2
                obtain ⟨rfl, rfl, rfl⟩ := hx4
                have HMM : Hid (∀ ob nq, Below m0.heap.size m0 ((wr.alloc ob).drewN nq)) := Lib.hid (fun ob nq => below_drewN (HK.out.alloc HK.out.size ob) nq)
                clear HK
                generalize bstI l k = bk at *
                by_cases c : xt < yt
                · have t1 : decide (xt < yt) = true := decide_eq_true c
                  have HV : Hid (bstI l (k + 1) = k) := Lib.hid (HSC.out.trans (if_pos (show lessO (xf, xb, xt) (yf, yb, yt) from Or.inl c)))
                  clear HTL HSC c
                  go_wp2_with fail
                  go_quiet (fail)
                  go_wp2_with fail
                  go_roundg z2
                  case measure => omega
                  case rel => exact ⟨k + 1, by go_num, by omega, by rw [HV.out], Lib.hid (HMM.out _ _)⟩
                have t1 : decide (xt < yt) = false := decide_eq_false c
                by_cases ce : xt = yt
                · subst ce
                  by_cases cf : xf < yf
                  · have t2 : decide ((xf : Int) < (yf : Int)) = true := decide_eq_true (by omega)
                    have t3 : decide (xf < yf) = true := decide_eq_true cf
                    have HV : Hid (bstI l (k + 1) = k) := Lib.hid (HSC.out.trans (if_pos (show lessO (xf, xb, xt) (yf, yb, xt) from Or.inr ⟨rfl, cf⟩)))
                    clear HTL HSC c
                    go_wp2_with fail
                    go_quiet (fail)
                    go_wp2_with fail
                    go_roundg z2
                    case measure => omega
                    case rel => exact ⟨k + 1, by go_num, by omega, by rw [HV.out], Lib.hid (HMM.out _ _)⟩
                  · have t2 : decide ((xf : Int) < (yf : Int)) = false := decide_eq_false (by omega)
                    have t3 : decide (xf < yf) = false := decide_eq_false cf
                    have HV : Hid (bstI l (k + 1) = bk) := Lib.hid (HSC.out.trans (if_neg (show ¬ lessO (xf, xb, xt) (yf, yb, xt) from fun h => h.elim c fun h => cf h.2)))
                    clear HTL HSC c
                    go_wp2_with fail
                    go_quiet (fail)
                    go_wp2_with fail
                    go_roundg z2
                    case measure => omega
                    case rel => exact ⟨k + 1, by go_num, by omega, by rw [HV.out], Lib.hid (HMM.out _ _)⟩
                · have t2 : (xt == yt) = false := by rw [beq_eq_false_iff_ne]; exact ce
                  have t3 : decide (xt = yt) = false := decide_eq_false ce
                  have HV : Hid (bstI l (k + 1) = bk) := Lib.hid (HSC.out.trans (if_neg (show ¬ lessO (xf, xb, xt) (yf, yb, yt) from fun h => h.elim c fun h => ce h.1)))
                  clear HTL HSC c
                  go_wp2_with fail
                  go_quiet (fail)
                  go_wp2_with fail
                  go_roundg z2
                  case measure => omega
                  case rel => exact ⟨k + 1, by go_num, by omega, by rw [HV.out], Lib.hid (HMM.out _ _)⟩
        · have d1 : (x != 1) = true := by simpa using k1
          have d2 : (x != 2) = true := by simpa using k2
          have d3 : (x == 1) = false := by simpa using k1
          have d4 : (x == 2) = false := by simpa using k2
          obtain ⟨ve', W, hr, hp, htm⟩ := H4.out.bad HS.out HB.out.1 (e := 5) (by unfold scErr; dsimp only; rw [if_neg k1, if_neg k2]) (by decide)
          have HR := Lib.hid hr
          have HP := Lib.hid (And.intro hp htm)
          clear hr hp htm H4 HS HX HXW HAT HST HU HU0 HTK HB HB2 HTL HN HM
          go_wp2_with (at_builtin; refine wpList_append_g rfl (.tmp 179) (.tmp 181) 24 24 rfl rfl rfl (HR.out _) ?_)
          clear HR
          go_wp2_with fail
          go_roundg z
          case measure => omega
          case rel => exact ⟨i + 1, l, by go_num, by omega, by rw [HP.out.2], Lib.hid HP.out.1⟩
end Go.Proofs.Ytobkepipmmkboaa
