/- ShareAll: everything is shared out, or all have what they want. -/
import Derived.Test.YtlpchakoikmbnaaSh9
namespace Go.Proofs.Ytlpchakoikmbnaa
open Go.RowKit Go.Maps

theorem all_step {A : Int} {xs ys : List Int} (hR : Right A xs ys) {N D : Int} (hL : Level A (fn xs) (fn ys) xs.length N D) {k : Nat} (hk : k < xs.length) :
    0 ≤ gN (fn xs) (fn ys) N D k * (max D 1 / gD (fn xs) (fn ys) N D k) ∧ gN (fn xs) (fn ys) N D k * (max D 1 / gD (fn xs) (fn ys) N D k) ≤ 17179869184 := by
  have hb := level_bounds hR hL
  have hw := hR.want hk
  have hg := g_bounds hR hL hk
  rcases g_way (fn xs) (fn ys) N D k with ⟨h1, h2, h3⟩ | ⟨h1, h2, h3⟩
  · have hp := (g_short hL h1).pos
    rw [h3, show max D 1 = D by omega, Int.ediv_self (by omega), Int.mul_one]
    omega
  · rw [h2, h3, Int.ediv_one]
    have h4 := Int.mul_nonneg hw.1 (show 0 ≤ max D 1 by omega)
    have h5 : fn xs k * max D 1 ≤ 1048576 * 16384 := Int.mul_le_mul hw.2 (by omega) (by omega) (by decide)
    omega

set_option maxRecDepth 100000 in
set_option maxHeartbeats 16000000 in
theorem shareAll_law {w : World} {P Q : Option Addr} {xs ys : List Int} (hx : IntsIn w P xs) (hy : IntsIn w Q ys) (cx cy : Nat) (A : Int) :
    Calls Try.prog 4 #[.int .i64 A, .slice P xs.length cx, .slice Q ys.length cy] w fun e w' => e = .returned (.bool true) ∧ Below w.heap.size w w' := by
  obtain ⟨gs, E, N, D, hG⟩ := gv_any A xs ys
  have HA := Lib.hid alive12_any
  have HG := Lib.hid (fun W (hW : Below w.heap.size w W) => hG.gets (hx.below hW) (hy.below hW) cx cy)
  have HL := Lib.hid (fun W (hW : Below w.heap.size w W) => hG.level (hx.below hW) (hy.below hW) cx cy)
  unfold Got at HG
  unfold Levelled at HL
  rcases hG.way with ⟨h12, rfl, rfl, rfl⟩ | ⟨rfl, hR, hLv, hgs⟩
  · have hE : (E != 0) = true := by rcases h12 with rfl | rfl <;> rfl
    clear hG hx hy h12
    generalize xs.length = n at *
    generalize ys.length = m at *
    go_enter Try.func4, Try.ntmps4
    go_wp2_with fail
    refine (HA.out _).mono ?_
    rintro e w1 ⟨rfl, hb⟩
    have H1 := Lib.hid hb
    clear hb HA
    go_wp2_with fail
    refine (HG.out _ H1.out).mono ?_
    rintro e w2 ⟨R, c, rfl, _, hb, _, _⟩
    have H2 := Lib.hid (H1.out.trans (hb.mono H1.out.size))
    clear hb HG H1
    go_wp2_with fail
    refine (HL.out _ H2.out).mono ?_
    rintro e w3 ⟨rfl, hb⟩
    have hb2 := H2.out.trans (hb.mono H2.out.size)
    have H3 := Lib.hid (hb2.trans ((laidF_at w3 0 0).2.1.mono hb2.size))
    clear hb hb2 HL H2
    go_upto_region 5 with fail
    change Code.wp _ _ _ _ (laidF w3 0 0)
    generalize laidF w3 0 0 = w4 at *
    go_wp2_with fail
    go_ret
    exact ⟨rfl, H3.out⟩
  · subst hgs
    have hbd := level_bounds hR hLv
    have HRT := Lib.hid hR
    have HLT := Lib.hid hLv
    have HPX := Lib.hid (fun W (hW : Below w.heap.size w W) => hx.below hW)
    obtain ⟨n, hn⟩ : ∃ n, xs.length = n := ⟨_, rfl⟩
    have HN := Lib.hid hn
    have h16 : n ≤ 16 := by rw [← hn]; exact hR.few
    have HSU := Lib.hid (g_sum hLv)
    rw [gets_length] at HG
    rw [hn] at HG HL HSU ⊢
    obtain ⟨M, hM⟩ : ∃ M, max D 1 = M := ⟨_, rfl⟩
    rw [hM] at HSU
    have hM1 : 1 ≤ M ∧ M ≤ 16000 := by omega
    have HM := Lib.hid hM
    clear hG hx hy hR hLv hn
    generalize ys.length = m at *
    go_enter Try.func4, Try.ntmps4
    go_wp2_with fail
    refine (HA.out _).mono ?_
    rintro e w1 ⟨rfl, hb⟩
    have H1 := Lib.hid hb
    clear hb HA
    go_wp2_with fail
    refine (HG.out _ H1.out).mono ?_
    rintro e w2 ⟨R, c, rfl, hR, hb, _, _⟩
    have H2 := Lib.hid (And.intro (H1.out.trans (hb.mono H1.out.size)) hR)
    clear hb HG H1 hR
    go_wp2_with fail
    refine (HL.out _ H2.out.1).mono ?_
    rintro e w3 ⟨rfl, hb⟩
    have hb2 := H2.out.1.trans (hb.mono H2.out.1.size)
    have hF := laidF_at w3 N D
    have H3 := Lib.hid (And.intro (hb2.trans (hF.2.1.mono hb2.size)) (And.intro ((H2.out.2.below hb).below hF.2.1) hF.1))
    clear hb hb2 HL H2 hF
    go_upto_region 5 with fail
    change Code.wp _ _ _ _ (laidF w3 N D)
    generalize laidF w3 N D = w4 at *
    obtain ⟨c0, c1⟩ := H3.out.2.2.cells
    have HS := Lib.hid (And.intro H3.out.1 H3.out.2.1)
    have HST := Lib.hid (fun k (hk : k < n) => all_step HRT.out HLT.out (k := k) (by rw [HN.out]; exact hk))
    rw [hM] at HST
    have HSB : Hid (∀ j, j ≤ n → 0 ≤ su (fun k => gN (fn xs) (fn ys) N D k * (M / gD (fn xs) (fn ys) N D k)) j ∧ su (fun k => gN (fn xs) (fn ys) N D k * (M / gD (fn xs) (fn ys) N D k)) j ≤ 17179869184 * 16) := Lib.hid (fun j hj => by
      have h1 : su (fun k => gN (fn xs) (fn ys) N D k * (M / gD (fn xs) (fn ys) N D k)) j ≤ 17179869184 * (j : Int) := su_bound fun k hk => (HST.out k (by omega)).2
      exact ⟨su_nonneg fun k hk => (HST.out k (by omega)).1, by omega⟩)
    have HVB : Hid (∀ j, j ≤ n → 0 ≤ su (fn xs) j ∧ su (fn xs) j ≤ 16777216) := Lib.hid (fun j hj => by
      have h1 : su (fn xs) j ≤ 1048576 * (j : Int) := su_bound fun k _ => (HRT.out.want0 k).2
      exact ⟨su_nonneg fun k _ => (HRT.out.want0 k).1, by omega⟩)
    clear H3 hbd
    go_upto_region 8 with fail
    clear hM c0 c1
    go_wp2_with fail
    go_loopg [12, 13, 46] n (fun z s v c wr => ∃ (i : Nat) (S V : Int), s = .int .i64 S ∧ v = .int .i64 V ∧ c = .int .i64 (i : Int) ∧ i + z = n ∧ Hid (S = su (fun k => gN (fn xs) (fn ys) N D k * (M / gD (fn xs) (fn ys) N D k)) i ∧ V = su (fn xs) i ∧ Below w.heap.size w wr ∧ FrsIn wr R (gets (fn xs) (fn ys) N D n)))
    case atStart => exact ⟨0, 0, 0, rfl, rfl, rfl, by omega, Lib.hid ⟨rfl, rfl, HS.out.1, HS.out.2⟩⟩
    case round =>
      clear HS
      obtain ⟨i, S, V, rfl, rfl, rfl, hik, HI⟩ := hrel
      cases gk with
      | zero =>
        obtain rfl : i = n := by omega
        have hS := HI.out.1
        rw [HSU.out.1] at hS
        have hV := HI.out.2.1
        rw [← hV] at hS
        have HB := Lib.hid HI.out.2.2.1
        obtain ⟨X, hX⟩ : ∃ X, min A V = X := ⟨_, rfl⟩
        rw [hX] at hS
        have hV0 : 0 ≤ V := by rw [hV]; exact su_nonneg fun k _ => (HRT.out.want0 k).1
        have hA := HRT.out.all
        have hm0 := Int.mul_nonneg (show 0 ≤ X by omega) (show 0 ≤ M by omega)
        have hm1 : X * M ≤ 1048576 * 16000 := Int.mul_le_mul (by omega) hM1.2 (by omega) (by decide)
        have q1 : wrap64 (X * M) = S := by rw [IntWalk.wrap64_in _ (by constructor <;> omega)]; exact hS.symm
        have e1 : (S == S) = true := by simp
        clear hS hV hV0 hA hm0 hm1 HI HSU HST HPX HRT HLT HN HSB HVB
        go_wp2_with fail
        go_ret
        exact ⟨rfl, HB.out⟩
      | succ k =>
        have hi : i < n := by omega
        have i1 : (i : Int) < (n : Int) := by omega
        obtain ⟨b0, off, nn, d, rfl, hx, ⟨c0, c1⟩, _⟩ := HI.out.2.2.2.next (i := i) (by rw [gets_length]; exact hi)
        obtain ⟨_, hnd⟩ := gets_back hx
        injection hnd with hnn hdd
        obtain ⟨gx, ox, a, rfl, ha, hca, hla⟩ := (HPX.out _ HI.out.2.2.1).next (i := i) (by rw [HN.out]; exact hi)
        have hfa := fn_at ha
        have hgb := g_bounds HRT.out HLT.out (k := i) (by rw [HN.out]; exact hi)
        have hgl := g_le HLT.out i
        have hst := HST.out i hi
        have hab := HRT.out.want0 i
        rw [hfa] at hab hgl
        rw [← hnn, ← hdd] at hgb hgl hst
        have hmod := HSU.out.2 i
        rw [← hdd] at hmod
        have g0 : ¬ d = 0 := by omega
        have g1 : decide (d < 1) = false := decide_eq_false (by omega)
        have g2 : M.tmod d = 0 := by rw [Int.tmod_eq_emod_of_nonneg (by omega)]; exact hmod
        obtain ⟨K, hK⟩ : ∃ K, M / d = K := ⟨_, rfl⟩
        have hK0 : 0 ≤ K ∧ K ≤ 16000 := by
          rw [← hK]
          exact ⟨Int.ediv_nonneg (by omega) (by omega), Int.le_trans (Int.ediv_le_self _ (by omega)) hM1.2⟩
        have g5 : M.tdiv d = K := by rw [Int.tdiv_eq_ediv_of_nonneg (by omega)]; exact hK
        have g6 : IntKind.i64.wrap K = K := wrap_in (by omega) (by omega)
        rw [hK] at hst
        obtain ⟨P2, q2, hP2⟩ : ∃ P2, IntKind.i64.wrap (nn * K) = P2 ∧ P2 = nn * K := ⟨_, rfl, wrap_in (by omega) (by omega)⟩
        have hSb := HSB.out i (by omega)
        rw [← HI.out.1] at hSb
        obtain ⟨S2, q3, hS2⟩ : ∃ S2, IntKind.i64.wrap (S + P2) = S2 ∧ S2 = S + P2 := ⟨_, rfl, wrap_in (by omega) (by omega)⟩
        have hVb := HVB.out i (by omega)
        rw [← HI.out.2.1] at hVb
        have q4 : wrap64 (V + a) = V + a := IntWalk.wrap64_in _ (by constructor <;> omega)
        have HK := Lib.hid (And.intro hK (And.intro hP2 hS2))
        have HFA := Lib.hid hfa
        obtain ⟨P1, q1, hP1⟩ : ∃ P1, IntKind.i64.wrap (a * d) = P1 ∧ P1 = a * d := ⟨_, rfl, mul_wrap (by omega) (by omega)⟩
        have g3 : decide (P1 < nn) = false := decide_eq_false (by omega)
        have g4 : decide (nn < 0) = false := decide_eq_false (by omega)
        have HIK := Lib.hid hik
        have HX : Hid (FrAt (laidF wr nn d) wr.heap.size nn d ∧ S = su (fun k => gN (fn xs) (fn ys) N D k * (M / gD (fn xs) (fn ys) N D k)) i ∧ V = su (fn xs) i ∧ Below w.heap.size w (laidF wr nn d) ∧ FrsIn (laidF wr nn d) (some ⟨b0, off, none⟩) (gets (fn xs) (fn ys) N D n) ∧ (laidF wr nn d).cell? ⟨gx, ox + i, none⟩ = some (.int .i64 a)) := Lib.hid (by
          have hF := laidF_at wr nn d
          exact ⟨hF.1, HI.out.1, HI.out.2.1, HI.out.2.2.1.trans (hF.2.1.mono HI.out.2.2.1.size), HI.out.2.2.2.below hF.2.1, (hF.2.1.cell (p := ⟨_, _, none⟩) hla).trans hca⟩)
        have HND := Lib.hid (And.intro hnn hdd)
        clear hnn hdd
        go_upto_region 12 with fail
        clear c0 c1 hca hx hfa hgb hgl hst hab hmod hP1 hla ha HI hik hK hP2 hS2 hSb hVb HSB HVB HST hK0
        change Code.wp _ _ _ _ (laidF wr nn d)
        generalize laidF wr nn d = w5 at *
        generalize wr.heap.size = g5 at *
        obtain ⟨c0, c1⟩ := HX.out.1.cells
        have c2 := HX.out.2.2.2.2.2
        go_quiet (fail)
        go_upto_region 14 with fail
        go_quiet (fail)
        have HQ := Lib.hid (show S2 = su (fun k => gN (fn xs) (fn ys) N D k * (M / gD (fn xs) (fn ys) N D k)) (i + 1) ∧ V + a = su (fn xs) (i + 1) from ⟨by rw [su_succ, HK.out.2.2, HK.out.2.1, ← HK.out.1, ← HND.out.1, ← HND.out.2, ← HX.out.2.1], by rw [su_succ, HFA.out, ← HX.out.2.2.1]⟩)
        have HR := Lib.hid (And.intro HX.out.2.2.2.1 HX.out.2.2.2.2.1)
        clear HX HND HK HFA
        go_wp2_with fail
        go_roundg k
        case measure => omega
        case rel => exact ⟨i + 1, S2, V + a, rfl, by first | rfl | rw [q4], by go_num, by have := HIK.out; omega, Lib.hid ⟨HQ.out.1, HQ.out.2, by first | exact HR.out.1 | exact below_drewN (below_drewN HR.out.1 _) _ | exact below_drewN HR.out.1 _, by first | exact HR.out.2 | exact HR.out.2.below (below_drewN (below_drewN (Below.refl _ _) _) _) | exact HR.out.2.below (below_drewN (Below.refl _ _) _)⟩⟩
theorem shareAll_walk {w : World} {P Q : Option Addr} {xs ys : List Int} {n m : Nat} (hx : IntsIn w P xs) (h1 : xs.length = n) (hy : IntsIn w Q ys) (h2 : ys.length = m) (cx cy : Nat) (A : Int) :
    Calls Try.prog 4 #[.int .i64 A, .slice P n cx, .slice Q m cy] w fun e w' => e = .returned (.bool true) ∧ Below w.heap.size w w' := by
  subst h1 h2
  exact shareAll_law hx hy cx cy A
end Go.Proofs.Ytlpchakoikmbnaa
