/- ScfqOrder: of each flow what came first goes first, each once; and as long as something waits something is sent. -/
import Derived.Test.YtobkepipmmkboaaFkK
import Derived.Test.YtobkepipmmkboaaSc10
namespace Go.Proofs.Ytobkepipmmkboaa
open Go.RowKit Go.Maps

theorem leftL_at {n : Nat} (s : Sc) {k : Nat} (hk : k < n) : (leftL n s)[k]? = some ((s.bytes k).length : Int) := by
  unfold leftL Sc.bytes
  rw [List.getElem?_map, List.getElem?_range hk, List.length_map]
  rfl
set_option maxRecDepth 100000 in
set_option maxHeartbeats 16000000 in
theorem scfqOrder_law {w : World} {P Q : Option Addr} {xs : List Int} {os : List (Int × Int × Int)} (hx : IntsIn w P xs) (hy : ThreeIn w Q os) (cx cy : Nat) :
    Calls Try.prog 4 #[.slice P xs.length cx, .slice Q os.length cy] w fun e w' => e = .returned (.bool true) ∧ Below w.heap.size w w' := by
  have HA := Lib.hid (alive15_any w)
  have HPY := Lib.hid (fun W (hW : Below w.heap.size w W) => play_any (hx.below hW) (hy.below hW) cx cy)
  unfold Out at HPY
  rcases play_way xs os with ⟨h, e1, e2, e3⟩ | ⟨h, hR, hm, e1, e2, e3⟩
  · rw [h, e1, e2, e3] at HPY
    simp only [List.length_nil] at HPY
    clear hx hy h e1 e2 e3
    generalize xs.length = n at *
    generalize os.length = m at *
    go_enter Try.func4, Try.ntmps4
    go_wp2_with fail
    refine HA.out.mono ?_
    rintro e w1 ⟨rfl, hb⟩
    have H1 := Lib.hid hb
    clear hb HA
    go_wp2_with fail
    refine (HPY.out _ H1.out).mono ?_
    rintro e w2 ⟨A, cA, B, cB, D, cD, rfl, -, -, -, hb⟩
    have H2 := Lib.hid (H1.out.trans (hb.mono H1.out.size))
    clear hb HPY H1
    go_wp2_with fail
    go_ret
    exact ⟨rfl, H2.out⟩
  · rw [h, e1, e2, e3] at HPY
    obtain ⟨n, hn⟩ : ∃ n, xs.length = n := ⟨_, rfl⟩
    have h16 : n ≤ 16 := by rw [← hn]; exact hR.few
    rw [hn] at HPY ⊢
    obtain ⟨W, w0, hW⟩ := order_waits (uW xs) n os
    have hT := scRun_tr (uW xs) n os
    have hel := scRun_errs_length (uW xs) n os
    have HLL := Lib.hid (And.intro (leftL_length n (scRun (uW xs) n os).st) (fun k (hk : k < n) => leftL_at (scRun (uW xs) n os).st hk))
    generalize leftL n (scRun (uW xs) n os).st = ls at *
    generalize (scRun (uW xs) n os).st.bytes = q' at *
    generalize (scRun (uW xs) n os).errs = es at *
    generalize (scRun (uW xs) n os).sent = ss at *
    have HK := Lib.hid (fun W A B D (h1 : ThreeIn W Q os) (h2 : IntsIn W A es) (h3 : SentIn W B ss) (h4 : IntsIn W D ls) cA cB cD => flowsKept_any hT h1 h2 h3 h4 HLL.out.1 HLL.out.2 h16 hm cy cA cB cD)
    have HY := Lib.hid (fun W (hW : Below w.heap.size w W) => hy.below hW)
    obtain ⟨m, hm1⟩ : ∃ m, os.length = m := ⟨_, rfl⟩
    have hm4 : m ≤ 400 := by rw [← hm1]; exact hm
    rw [hel, hm1, HLL.out.1] at HPY HK
    rw [hm1]
    have HM := Lib.hid (And.intro hm1 hel)
    have HWW := Lib.hid hW
    generalize ss.length = sl at *
    clear hx hy h hR hm e1 e2 e3 hn hW hT hel hm1 HLL
    go_enter Try.func4, Try.ntmps4
    go_wp2_with fail
    refine HA.out.mono ?_
    rintro e w1 ⟨rfl, hb⟩
    have H1 := Lib.hid hb
    clear hb HA
    go_wp2_with fail
    refine (HPY.out _ H1.out).mono ?_
    rintro e w2 ⟨A, cA, B, cB, D, cD, rfl, hE, hS, hL, hb⟩
    have H2 := Lib.hid (And.intro (H1.out.trans (hb.mono H1.out.size)) (And.intro hE (And.intro hS hL)))
    clear hb HPY H1 hE hS hL
    go_wp2_with fail
    have H5 := Lib.hid (Below.refl w2.heap.size w2)
    have hwz : ((0 : Nat) : Int) = (W 0 : Int) := by rw [w0]
    go_loopg [29, 9] m (fun z c x wi => ∃ i : Nat, c = .int .i64 (i : Int) ∧ x = .int .i64 (W i : Int) ∧ W i ≤ i ∧ i + z = m ∧ Hid (Below w2.heap.size w2 wi))
    case atStart => exact ⟨0, rfl, by rw [← hwz]; rfl, by omega, by omega, H5⟩
    case round =>
      clear H5 hwz w0
      obtain ⟨i, rfl, rfl, hwi, hik, HI⟩ := hrel
      cases gk with
      | zero =>
        obtain rfl : i = m := by omega
        have HB := Lib.hid (H2.out.1.trans (HI.out.mono H2.out.1.size))
        have HC := Lib.hid (HK.out wr A B D (HY.out _ HB.out) (H2.out.2.1.below HI.out) (H2.out.2.2.1.below HI.out) (H2.out.2.2.2.below HI.out) cA cB cD)
        clear HI HK HY H2 HWW HM hwi
        generalize W i = wk at *
        go_wp2_with fail
        refine HC.out.mono ?_
        rintro e w6 ⟨rfl, hb⟩
        have H6 := Lib.hid (HB.out.trans (hb.mono HB.out.size))
        clear hb HC HB
        go_wp2_with fail
        go_ret
        exact ⟨rfl, H6.out⟩
      | succ z =>
        have hi : i < m := by omega
        have i1 : (i : Int) < (m : Int) := by omega
        have i2 : decide ((m : Int) ≤ (i : Int)) = false := decide_eq_false (by omega)
        obtain ⟨b0, o0, x, y, b, rfl, hx, ⟨d0, d1, d2⟩, -⟩ := (HY.out _ (H2.out.1.trans (HI.out.mono H2.out.1.size))).next (i := i) (by rw [HM.out.1]; exact hi)
        obtain ⟨er, her, hway⟩ := HWW.out i x y b hx
        obtain ⟨b1, o1, e, rfl, hxe, d3, l3⟩ := (H2.out.2.1.below HI.out).next (i := i) (by rw [HM.out.2, HM.out.1]; exact hi)
        obtain rfl : er = e := by rw [her] at hxe; injection hxe
        obtain ⟨T0, T1, T2, TB, TL⟩ := laidP_at wr x y b
        have d3' := (TB.cell (p := ⟨b1, o1 + i, none⟩) l3).trans d3
        have HN := Lib.hid (And.intro hik (HI.out.trans (TB.mono HI.out.size)))
        have hwi4 : W i ≤ 400 := by omega
        clear hx hxe her HI hik TB HK HY HM HWW H2
        obtain ⟨wk, hwk⟩ : ∃ wk, W i = wk := ⟨_, rfl⟩
        rw [hwk] at hway hwi hwi4 ⊢
        obtain ⟨wn, hwn⟩ : ∃ wn, W (i + 1) = wn := ⟨_, rfl⟩
        rw [hwn] at hway
        rcases hway with ⟨he, h1, h2⟩ | ⟨rfl, rfl, h1⟩ | ⟨rfl, rfl, h1⟩
        · have he1 : (er == 0) = false := by simpa using he
          have he2 : (er != 0) = true := by simpa using he
          subst h1
          by_cases hk : x = 2
          · subst hk
            have hw0 : decide (0 < wn) = false := decide_eq_false (by have := h2 rfl; omega)
            clear he h2
            go_upto_region 10 with fail
            change Code.wp _ _ _ _ (laidP wr 2 y b)
            generalize laidP wr 2 y b = m0 at *
            generalize wr.heap.size = gx at *
            clear d0 d1 d2 d3
            go_wp2_with fail
            go_roundg z
            case measure => omega
            case rel => exact ⟨i + 1, by go_num, by rw [hwn], by rw [hwn]; omega, by have := HN.out.1; omega, Lib.hid HN.out.2⟩
          · have hk1 : (x == 2) = false := by simpa using hk
            clear he h2 hk
            go_upto_region 10 with fail
            change Code.wp _ _ _ _ (laidP wr x y b)
            generalize laidP wr x y b = m0 at *
            generalize wr.heap.size = gx at *
            clear d0 d1 d2 d3
            go_wp2_with fail
            go_roundg z
            case measure => omega
            case rel => exact ⟨i + 1, by go_num, by rw [hwn], by rw [hwn]; omega, by have := HN.out.1; omega, Lib.hid HN.out.2⟩
        · have ew : IntKind.i64.wrap ((wk : Int) + 1) = (wn : Int) := by rw [wrap_in (by omega) (by omega)]; omega
          go_upto_region 10 with fail
          change Code.wp _ _ _ _ (laidP wr 1 y b)
          generalize laidP wr 1 y b = m0 at *
          generalize wr.heap.size = gx at *
          clear d0 d1 d2 d3
          go_wp2_with fail
          go_roundg z
          case measure => omega
          case rel => exact ⟨i + 1, by go_num, by rw [hwn]; exact congrArg (Value.int .i64) (by omega), by rw [hwn]; omega, by have := HN.out.1; omega, Lib.hid HN.out.2⟩
        · have ew : IntKind.i64.wrap ((wk : Int) - 1) = (wn : Int) := by rw [wrap_in (by omega) (by omega)]; omega
          have hw0 : decide (0 < wk) = true := decide_eq_true (by omega)
          go_upto_region 10 with fail
          change Code.wp _ _ _ _ (laidP wr 2 y b)
          generalize laidP wr 2 y b = m0 at *
          generalize wr.heap.size = gx at *
          clear d0 d1 d2 d3
          go_wp2_with fail
          go_roundg z
          case measure => omega
          case rel => exact ⟨i + 1, by go_num, by rw [hwn], by rw [hwn]; omega, by have := HN.out.1; omega, Lib.hid HN.out.2⟩
theorem scfqOrder_walk {w : World} {P Q : Option Addr} {xs : List Int} {os : List (Int × Int × Int)} {n m : Nat} (hx : IntsIn w P xs) (h1 : xs.length = n) (hy : ThreeIn w Q os) (h2 : os.length = m) (cx cy : Nat) :
    Calls Try.prog 4 #[.slice P n cx, .slice Q m cy] w fun e w' => e = .returned (.bool true) ∧ Below w.heap.size w w' := by
  subst h1 h2
  exact scfqOrder_law hx hy cx cy
end Go.Proofs.Ytobkepipmmkboaa
