/- curve.Keeps. -/
import Derived.Test.YtdlmiiekcpbdcaaCv3
import Derived.Test.YtdlmiiekcpbdcaaCv4
namespace Go.Proofs.Ytdlmiiekcpbdcaa
open Go.RowKit Go.Maps

theorem keepsGo_next {b r a : Int} {xs : List Int} {i : Nat} {x : Int} (h : xs[i]? = some x) : keepsGo b r a (xs.drop i) = (decide (max a 0 + x - r ≤ b) && keepsGo b r (max a 0 + x - r) (xs.drop (i + 1))) := by
  rw [drop_next h]; rfl
theorem keepsGo_last {b r a : Int} {xs : List Int} {n : Nat} (h : xs.length = n) : keepsGo b r a (xs.drop n) = true := by
  rw [← h, List.drop_length]; rfl

set_option maxRecDepth 100000 in
set_option maxHeartbeats 8000000 in
theorem keeps_any {w : World} {xs : List Int} {A : Option Addr} (hP : IntsIn w A xs) (cap : Nat) (b r : Int) :
    Calls Try.prog 16 #[.agg #[.int .i64 b, .int .i64 r], .slice A xs.length cap] w fun e w' => e = .returned (.tuple #[.bool (keeps b r xs).1, .int .i64 (keeps b r xs).2]) ∧ Below w.heap.size w w' := by
  have HX := Lib.hid (laidC_at w b r)
  have H0 := Lib.hid (fun w => wrongCurve_any b r w)
  have HPB := Lib.hid (fun W (hW : Below w.heap.size w W) => hP.below hW)
  have H1 := Lib.hid (fun W (hW : Below w.heap.size w W) => wrongTrace_any (hP.below hW) cap)
  have HK : Hid (keeps b r xs = if ((out20 b || out20 r) || wtr xs) = true then (false, 2) else (keepsGo b r 0 xs, 0)) := Lib.hid rfl
  obtain ⟨n, hn⟩ : ∃ n, xs.length = n := ⟨_, rfl⟩
  have HN := Lib.hid hn
  have hlen := hP.len
  rw [hn] at hlen H1 ⊢
  clear hP hn
  cases hc : out20 b || out20 r with
  | true =>
    rw [hc, Bool.true_or, if_pos rfl] at HK
    rw [hc] at H0
    rw [HK.out]
    clear hc HK
    go_enter Try.func16, Try.ntmps16
    go_upto_region 1 with fail
    change Code.wp _ _ _ _ (laidC w b r)
    generalize laidC w b r = m at *
    obtain ⟨c0, c1⟩ := HX.out.1.cells
    go_wp2_with fail
    refine (H0.out _).mono ?_
    rintro e w1 ⟨rfl, hb⟩
    have HY := Lib.hid (HX.out.2.1.trans (hb.mono HX.out.2.1.size))
    clear HX hb c0 c1
    go_wp2_with fail
    go_ret2
    exact ⟨rfl, HY.out⟩
  | false =>
    rw [hc, Bool.false_or] at HK
    rw [hc] at H0
    cases ht : wtr xs with
    | true =>
      rw [ht, if_pos rfl] at HK
      rw [ht] at H1
      rw [HK.out]
      clear hc HK ht
      go_enter Try.func16, Try.ntmps16
      go_upto_region 1 with fail
      change Code.wp _ _ _ _ (laidC w b r)
      generalize laidC w b r = m at *
      obtain ⟨c0, c1⟩ := HX.out.1.cells
      go_wp2_with fail
      refine (H0.out _).mono ?_
      rintro e w1 ⟨rfl, hb⟩
      have HY := Lib.hid (HX.out.2.1.trans (hb.mono HX.out.2.1.size))
      clear HX hb c0 c1
      go_wp2_with fail
      refine (H1.out _ HY.out).mono ?_
      rintro e w2 ⟨rfl, rfl⟩
      go_wp2_with fail
      go_ret2
      exact ⟨rfl, HY.out⟩
    | false =>
      rw [ht, if_neg (by decide)] at HK
      rw [ht] at H1
      rw [HK.out]
      obtain ⟨ht1, ht2⟩ := wtr_false.1 ht
      rw [Bool.or_eq_false_iff, out20_false, out20_false] at hc
      have HT := Lib.hid ht2
      have hn400 : n ≤ 400 := by have := HN.out; omega
      clear ht HK ht1 ht2
      go_enter Try.func16, Try.ntmps16
      go_upto_region 1 with fail
      change Code.wp _ _ _ _ (laidC w b r)
      generalize laidC w b r = m at *
      obtain ⟨c0, c1⟩ := HX.out.1.cells
      go_wp2_with fail
      refine (H0.out _).mono ?_
      rintro e w1 ⟨rfl, hb⟩
      have HY := Lib.hid (And.intro (HX.out.2.1.trans (hb.mono HX.out.2.1.size)) (HX.out.1.below hb))
      clear HX hb c0 c1
      go_wp2_with fail
      refine (H1.out _ HY.out.1).mono ?_
      rintro e w2 ⟨rfl, rfl⟩
      clear H0 H1
      obtain ⟨c0, c1⟩ := HY.out.2.cells
      have HI := Lib.hid (HPB.out _ HY.out.1)
      clear HPB
      go_wp2_with fail
      go_loopg [6, 17] n (fun k p c wr => ∃ (i : Nat) (a : Int), p = .int .i64 a ∧ c = .int .i64 (i : Int) ∧ i + k = n ∧ wr = w1 ∧ -1048576 ≤ a ∧ a ≤ 1048576 ∧ Hid (keepsGo b r 0 xs = keepsGo b r a (xs.drop i)))
      case atStart => exact ⟨0, 0, rfl, rfl, by omega, rfl, by omega, by omega, Lib.hid rfl⟩
      case round =>
        obtain ⟨i, a, rfl, rfl, hik, rfl, ha0, ha1, HE⟩ := hrel
        cases gk with
        | zero =>
          obtain rfl : i = n := by omega
          have he := HE.out
          rw [keepsGo_last HN.out] at he
          have HZ := Lib.hid he
          clear he HE HI HN HT
          go_wp2_with fail
          go_ret2
          rw [HZ.out]
          exact ⟨rfl, HY.out.1⟩
        | succ k =>
          have hi : i < n := by omega
          have i1 : (i : Int) < (n : Int) := by omega
          obtain ⟨b0, off, x, rfl, hx, hat, hbl⟩ := HI.out.next (i := i) (by have := HN.out; omega)
          have hx2 := HT.out x (List.mem_of_getElem? hx)
          have he := HE.out
          rw [keepsGo_next hx] at he
          have HE2 := Lib.hid he
          obtain ⟨M, hM⟩ : ∃ M, max a 0 = M := ⟨_, rfl⟩
          rw [hM] at HE2
          have e0 : (if a < 0 then 0 else a) = M := by rw [← hM]; split <;> omega
          have m0 : 0 ≤ M := by omega
          have m1 : M ≤ 1048576 := by omega
          have e1 : wrap64 (M + x) = M + x := IntWalk.wrap64_in _ (by constructor <;> omega)
          have e2 : wrap64 (M + x - r) = M + x - r := IntWalk.wrap64_in _ (by constructor <;> omega)
          clear hx hbl he HE hM HI HT
          by_cases ho : M + x - r ≤ b
          · have i2 : ¬ b < M + x - r := by omega
            rw [decide_eq_true ho, Bool.true_and] at HE2
            go_wp2_with fail
            go_roundg k
            case measure => omega
            case rel => exact ⟨i + 1, M + x - r, rfl, by go_num, by omega, rfl, by omega, by omega, HE2⟩
          · have i2 : b < M + x - r := by omega
            rw [decide_eq_false ho, Bool.false_and] at HE2
            go_wp2_with fail
            go_ret2
            rw [HE2.out]
            exact ⟨rfl, HY.out.1⟩
end Go.Proofs.Ytdlmiiekcpbdcaa
