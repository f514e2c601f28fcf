/- DrrAll: with rounds enough nothing is left. -/
import Derived.Test.YtgphbplmkegdeaaDl2
import Derived.Test.YtgphbplmkegdeaaDlAllM
namespace Go.Proofs.Ytgphbplmkegdeaa
open Go.RowKit Go.Maps

set_option maxRecDepth 100000 in
set_option maxHeartbeats 16000000 in
theorem drrAll_law {w : World} {P Q : Option Addr} {xs : List Int} {fs : List (List Int)} (hx : IntsIn w P xs) (hy : ListsIn w Q fs) (hI : ∀ f ∈ fs, ∀ x ∈ f, -9223372036854775808 ≤ x ∧ x ≤ 9223372036854775807) (cx cy : Nat) :
    Calls Try.prog 9 #[.slice P xs.length cx, .slice Q fs.length cy] w fun e w' => e = .returned (.bool true) ∧ Below w.heap.size w w' := by
  have HA := Lib.hid alive14_any
  have HE := Lib.hid (fun r W (hW : Below w.heap.size w W) => rounds_any (hx.below hW) (hy.below hW) cx cy r)
  unfold Out at HE
  have HPX := Lib.hid (fun W (hW : Below w.heap.size w W) => hx.below hW)
  have HPY := Lib.hid (fun W (hW : Below w.heap.size w W) => hy.below hW)
  have HII := Lib.hid hI
  have hxl := hx.len
  have hyl := hy.len
  obtain ⟨n, hn⟩ : ∃ n, xs.length = n := ⟨_, rfl⟩
  obtain ⟨m, hm⟩ : ∃ m, fs.length = m := ⟨_, rfl⟩
  have HN := Lib.hid (And.intro hn hm)
  rw [hn] at HE hxl ⊢
  rw [hm] at HE hyl ⊢
  clear hx hy hI hn hm
  go_enter Try.func9, Try.ntmps9
  go_wp2_with fail
  refine (HA.out _).mono ?_
  rintro e w1 ⟨rfl, hb⟩
  have H1 := Lib.hid hb
  clear hb HA
  go_wp2_with fail
  go_loopg [5, 21] m (fun z s c wi => ∃ (i : Nat) (N : Int), s = .int .i64 N ∧ c = .int .i64 (i : Int) ∧ i + z = m ∧ Hid (Enough xs fs N i ∧ 0 ≤ N ∧ Below w.heap.size w wi))
  case atStart => exact ⟨0, 0, rfl, rfl, by omega, Lib.hid ⟨fun j hj => absurd hj (by omega), Int.le_refl _, H1.out⟩⟩
  case round =>
    clear H1
    obtain ⟨i, N, rfl, rfl, hik, HI⟩ := hrel
    cases gk with
    | zero =>
      obtain rfl : i = m := by omega
      have HR := Lib.hid (HE.out N _ HI.out.2.2)
      clear HE HII
      rcases rounds_way xs fs N with ⟨h12, he⟩ | ⟨_, hR, q, rfl, hq, he⟩
      · have hE : (roundsErr xs fs N != 0) = true := by rcases h12 with h | h <;> rw [h] <;> rfl
        rw [he] at HR
        generalize roundsErr xs fs N = E at *
        have HB := Lib.hid HI.out.2.2
        clear h12 he HI HPX HPY HN
        simp only [List.length_nil] at HR
        go_wp2_with fail
        refine HR.out.mono ?_
        rintro e w2 ⟨A, cA, B, cB, D, cD, rfl, -, -, -, hb, -⟩
        have H2 := Lib.hid (HB.out.trans (hb.mono HB.out.size))
        clear hb HR HB
        go_wp2_with fail
        go_ret
        exact ⟨rfl, H2.out⟩
      · rw [he] at HR
        simp only [outL_length, outC_length] at HR
        have hmn : i = n := by rw [← HN.out.2, ← HN.out.1, hR.len]
        subst hmn
        have HLN := Lib.hid (fun j (hj : j < i) => by
          have h1 := HN.out.1
          have h2 := hR.turn (k := j) (by omega)
          have h3 := fD_empty hR i (HI.out.1 j hj (by omega) h2.1 h2.2)
          have h4 := outL_at (fs := fs) (ms := List.replicate i 0) q (j := j) (by rw [h1]; exact hj)
          have h5 := outC_at (fs := fs) (ms := List.replicate i 0) q (j := j) (by rw [h1]; exact hj)
          rw [h3.1] at h4
          rw [h3.2] at h5
          exact And.intro h4 h5)
        have HLL := Lib.hid (And.intro (outL_length xs fs (List.replicate i 0) q) (outC_length xs fs (List.replicate i 0) q))
        rw [HN.out.1] at HR HLL
        generalize outS xs fs (List.replicate i 0) q = S at *
        generalize outL xs fs (List.replicate i 0) q = L at *
        generalize outC xs fs (List.replicate i 0) q = C at *
        have HB := Lib.hid HI.out.2.2
        clear he hR HI HPX HPY HN hq
        generalize S.length = sl at *
        go_wp2_with fail
        refine HR.out.mono ?_
        rintro e w2 ⟨A, cA, B, cB, D, cD, rfl, -, hL, hC, hb, -⟩
        have H2 := Lib.hid (And.intro (HB.out.trans (hb.mono HB.out.size)) (And.intro hL hC))
        clear hb HR HB hL hC
        go_wp2_with fail
        go_loopg [81] i (fun z c wi => ∃ k : Nat, c = .int .i64 (k : Int) ∧ k + z = i ∧ wi = w2)
        case atStart => exact ⟨0, rfl, by omega, rfl⟩
        case round =>
          obtain ⟨k, rfl, hkz, rfl⟩ := hrel
          cases gk with
          | zero =>
            obtain rfl : k = i := by omega
            clear HLN HLL
            go_wp2_with fail
            go_ret
            exact ⟨rfl, H2.out.1⟩
          | succ z =>
            have hk : k < i := by omega
            have k1 : (k : Int) < (i : Int) := by omega
            obtain ⟨e1, e2⟩ := HLN.out k hk
            obtain ⟨b1, o1, f, B1, c1, rfl, g1, g2, -, -, -⟩ := H2.out.2.1.next (i := k) (by rw [HLL.out.1]; exact hk)
            obtain ⟨b2, o2, m, rfl, g4, g5, -⟩ := H2.out.2.2.next (i := k) (by rw [HLL.out.2]; exact hk)
            rw [e1] at g1
            injection g1 with g1
            rw [e2] at g4
            injection g4 with g4
            subst g1 g4
            simp only [List.length_nil] at g2
            have HKZ := Lib.hid hkz
            clear e1 e2 HLN HLL H2 hkz
            go_wp2_with fail
            go_roundg z
            case measure => omega
            case rel => exact ⟨k + 1, by go_num, by have := HKZ.out; omega, rfl⟩
    | succ k =>
      have hi : i < m := by omega
      have i1 : (i : Int) < (m : Int) := by omega
      obtain ⟨b0, o0, f, Bf, cf, rfl, hf, d0, hin, -, -⟩ := (HPY.out _ HI.out.2.2).next (i := i) (by rw [HN.out.2]; exact hi)
      have HF := Lib.hid (And.intro (fl_at hf) (HII.out f (List.mem_of_getElem? hf)))
      have HFI := Lib.hid (fun W (hW : Below wr.heap.size wr W) => hin.below hW)
      have hfl := hin.len
      obtain ⟨l, hl⟩ : ∃ l, f.length = l := ⟨_, rfl⟩
      have HL := Lib.hid hl
      rw [hl] at d0 hfl
      have HKI := Lib.hid hik
      clear hf hin hl hik
      go_wp2_with fail
      go_loopg [8, 28] l (fun z s c wi => ∃ (j : Nat) (S : Int), s = .int .i64 S ∧ c = .int .i64 (j : Int) ∧ j + z = l ∧ wi = wr ∧ 0 ≤ S ∧ S ≤ 1073741824 ∧ Hid (S = tt (f.take j)))
      case atStart => exact ⟨0, 0, rfl, rfl, by omega, rfl, by omega, by omega, Lib.hid rfl⟩
      case round =>
        obtain ⟨j, S, rfl, rfl, hjk, rfl, hs0, hs1, HJ⟩ := hrel
        cases gk with
        | succ z =>
          have hj : j < l := by omega
          have j1 : (j : Int) < (l : Int) := by omega
          obtain ⟨b1, o1, x, rfl, hx, d1, -⟩ := (HFI.out _ (Below.refl _ _)).next (i := j) (by rw [HL.out]; exact hj)
          have hxb := HF.out.2 x (List.mem_of_getElem? hx)
          obtain ⟨U, q1⟩ : ∃ U, IntKind.i64.wrap (S + x) = U := ⟨_, rfl⟩
          have q1' : wrap64 (S + x) = U := by rw [← IntWalk.i64_left]; exact q1
          have HT : Hid (0 ≤ U → U ≤ 1073741824 → U = tt (f.take (j + 1))) := Lib.hid (fun h1 h2 => by
            rw [tt_take_succ hx, ← HJ.out, ← q1]
            rw [← q1] at h1 h2
            exact no_overflow hs0 hs1 hxb h1 h2)
          have HJK := Lib.hid hjk
          clear hx hxb HJ hs0 hs1 hjk
          by_cases c1 : 1073741824 < U
          · have HB := Lib.hid HI.out.2.2
            clear HI HPX HPY HII HN HF HFI HL HKI HT HJK HE
            go_wp2_with fail
            go_ret
            exact ⟨rfl, HB.out⟩
          · by_cases c2 : U < 0
            · have HB := Lib.hid HI.out.2.2
              clear HI HPX HPY HII HN HF HFI HL HKI HT HJK HE
              go_wp2_with fail
              go_ret
              exact ⟨rfl, HB.out⟩
            · have HT2 := Lib.hid (HT.out (by omega) (by omega))
              clear HT
              go_wp2_with fail
              go_roundg z
              case measure => omega
              case rel => exact ⟨j + 1, U, by first | rfl | rw [q1'], by go_num, by have := HJK.out; omega, rfl, by omega, by omega, HT2⟩
        | zero =>
          obtain rfl : j = l := by omega
          have hSt : S = tt (fl fs i) := by rw [HJ.out, HF.out.1, List.take_of_length_le (by have := HL.out; omega)]
          have HST := Lib.hid hSt
          clear HJ HF HFI HL hSt d0
          by_cases c1 : i < n
          · have i2 : (i : Int) < (n : Int) := by omega
            obtain ⟨b2, o2, t, rfl, hx, d2, -⟩ := (HPX.out _ HI.out.2.2).next (i := i) (by rw [HN.out.1]; exact c1)
            have hft := fn_at hx
            by_cases c2 : 0 < t
            · obtain ⟨U1, q1⟩ : ∃ U, IntKind.i64.wrap (S + t) = U := ⟨_, rfl⟩
              obtain ⟨U2, q2⟩ : ∃ U, IntKind.i64.wrap (U1 - 1) = U := ⟨_, rfl⟩
              obtain ⟨K0, q3⟩ : ∃ K, U2.tdiv t = K := ⟨_, rfl⟩
              obtain ⟨K, q4⟩ : ∃ K', IntKind.i64.wrap K0 = K' := ⟨_, rfl⟩
              have HM : Hid (∀ M, max N K = M → Enough xs fs M (i + 1) ∧ 0 ≤ M ∧ Below w.heap.size w wr) := Lib.hid (fun M q5 => ⟨HI.out.1.max q5 (fun h1 h2 => by
                rw [hft] at h1 h2 ⊢
                rw [← HST.out]
                have e1 : U1 = S + t := by rw [← q1, wrap_in (by omega) (by omega)]
                have e2 : U2 = S + t - 1 := by rw [← q2, e1, wrap_in (by omega) (by omega)]
                have e3 : K0 = (S + t - 1) / t := by rw [← q3, e2, Int.tdiv_eq_ediv_of_nonneg (by omega)]
                have e5 := Int.ediv_le_self (a := S + t - 1) t (by omega)
                have e6 : 0 ≤ (S + t - 1) / t := Int.ediv_nonneg (by omega) (by omega)
                have e4 : K = (S + t - 1) / t := by rw [← q4, e3, wrap_in (by omega) (by omega)]
                rw [e4]
                exact steps_enough hs0 (by omega)), by have := HI.out.2.1; omega, HI.out.2.2⟩)
              have g0 : ¬ t = 0 := by omega
              clear hx hft HI HST HPX HPY HII HN HE hs0 hs1
              by_cases c5 : N < K
              · have HM2 := Lib.hid (HM.out K (by omega))
                clear HM
                go_upto_region 16 with fail
                go_quiet (fail)
                go_wp2_with fail
                go_roundg k
                case measure => omega
                case rel => exact ⟨i + 1, K, rfl, by go_num, by have := HKI.out; omega, Lib.hid ⟨HM2.out.1, HM2.out.2.1, by first | exact HM2.out.2.2 | exact below_drewN HM2.out.2.2 _⟩⟩
              · have HM2 := Lib.hid (HM.out N (by omega))
                clear HM
                go_upto_region 16 with fail
                go_quiet (fail)
                go_wp2_with fail
                go_roundg k
                case measure => omega
                case rel => exact ⟨i + 1, N, rfl, by go_num, by have := HKI.out; omega, Lib.hid ⟨HM2.out.1, HM2.out.2.1, by first | exact HM2.out.2.2 | exact below_drewN HM2.out.2.2 _⟩⟩
            · have HM : Hid (Enough xs fs N (i + 1) ∧ 0 ≤ N ∧ Below w.heap.size w wr) := Lib.hid ⟨HI.out.1.skip (by rw [hft]; omega), HI.out.2⟩
              clear hx hft HI HST HPX HPY HII HN HE hs0 hs1
              go_wp2_with fail
              go_roundg k
              case measure => omega
              case rel => exact ⟨i + 1, N, rfl, by go_num, by have := HKI.out; omega, HM⟩
          · have i2 : ¬ (i : Int) < (n : Int) := by omega
            have HM : Hid (Enough xs fs N (i + 1) ∧ 0 ≤ N ∧ Below w.heap.size w wr) := Lib.hid ⟨HI.out.1.skip (by rw [HN.out.1]; omega), HI.out.2⟩
            clear HI HST HPX HPY HII HN HE hs0 hs1
            go_wp2_with fail
            go_roundg k
            case measure => omega
            case rel => exact ⟨i + 1, N, rfl, by go_num, by have := HKI.out; omega, HM⟩
theorem drrAll_walk {w : World} {P Q : Option Addr} {xs : List Int} {fs : List (List Int)} {n m : Nat} (hx : IntsIn w P xs) (h1 : xs.length = n) (hy : ListsIn w Q fs) (h2 : fs.length = m) (hI : ∀ f ∈ fs, ∀ x ∈ f, -9223372036854775808 ≤ x ∧ x ≤ 9223372036854775807) (cx cy : Nat) :
    Calls Try.prog 9 #[.slice P n cx, .slice Q m cy] w fun e w' => e = .returned (.bool true) ∧ Below w.heap.size w w' := by
  subst h1 h2
  exact drrAll_law hx hy hI cx cy
end Go.Proofs.Ytgphbplmkegdeaa
