/- The reference: KFits, KDelay. -/
import Derived.Test.YtdlmiiekcpbdcaaCv7
namespace Go.Proofs.Ytdlmiiekcpbdcaa
open Go.RowKit Go.Maps

theorem any_next {xs : List Int} {i : Nat} {x : Int} (hx : xs[i]? = some x) (h : (xs.take i).any out20 = false) : (xs.take (i + 1)).any out20 = out20 x := by
  rw [take_snocI hx, List.any_append, h]
  simp
theorem any_found {xs : List Int} {i : Nat} {x : Int} (hx : xs[i]? = some x) (h : out20 x = true) : xs.any out20 = true := List.any_eq_true.2 ⟨x, List.mem_of_getElem? hx, h⟩

set_option maxRecDepth 100000 in
set_option maxHeartbeats 4000000 in
theorem kfits_any {w : World} {xs : List Int} {A : Option Addr} (hP : IntsIn w A xs) (cap : Nat) :
    Calls Try.prog 13 #[.slice A xs.length cap] w fun e w' => e = .returned (.bool (!xs.any out20)) ∧ w = w' := by
  have hlen := hP.len
  obtain ⟨n, hn⟩ : ∃ n, xs.length = n := ⟨_, rfl⟩
  have HN := Lib.hid hn
  have HP := Lib.hid hP
  rw [hn] at hlen ⊢
  clear hn hP
  go_enter Try.func13, Try.ntmps13
  go_wp2_with fail
  go_loopg [7] n (fun k c wr => ∃ i : Nat, c = .int .i64 (i : Int) ∧ i + k = n ∧ wr = w ∧ Hid ((xs.take i).any out20 = false))
  case atStart => exact ⟨0, rfl, by omega, rfl, Lib.hid rfl⟩
  case round =>
    obtain ⟨i, rfl, hik, rfl, HI⟩ := hrel
    cases gk with
    | zero =>
      obtain rfl : i = n := by omega
      have HE : Hid (xs.any out20 = false) := Lib.hid (by
        have := HI.out
        rwa [List.take_of_length_le (by have := HN.out; omega)] at this)
      clear HI HP HN
      go_wp2_with fail
      go_ret
      rw [HE.out]
      exact ⟨rfl, rfl⟩
    | succ k =>
      have hi : i < n := by omega
      have i1 : (i : Int) < (n : Int) := by omega
      obtain ⟨b, off, x, rfl, hx, hat, hbl⟩ := HP.out.next (i := i) (by have := HN.out; omega)
      have HA := Lib.hid (any_next hx HI.out)
      have HF := Lib.hid (any_found hx)
      clear hx hbl HI HP
      by_cases c : x < 0
      · have HT := Lib.hid (HF.out (by unfold out20; simp [c]))
        clear HA HF
        go_wp2_with fail
        go_ret
        rw [HT.out]
        exact ⟨rfl, rfl⟩
      · by_cases c2 : 1048576 < x
        · have HT := Lib.hid (HF.out (by unfold out20; simp [c2]))
          clear HA HF
          go_wp2_with fail
          go_ret
          rw [HT.out]
          exact ⟨rfl, rfl⟩
        · have HT := Lib.hid (HA.out.trans (out20_false.2 ⟨by omega, by omega⟩))
          clear HA HF
          go_wp2_with fail
          go_roundg k
          case measure => omega
          case rel => exact ⟨i + 1, by go_num, by omega, rfl, HT⟩

/-- What the reference's KDelay answers. -/
def kdelay (b r l s : Int) : Int := if (delay b r l s).2 = 0 then (delay b r l s).1 else -1
theorem ceil_leap {x s j : Int} (h1 : 1 ≤ s) : (x - j * s + s - 1) / s = (x + s - 1) / s - j := by
  rw [show x - j * s + s - 1 = (x + s - 1) + (-j) * s by rw [Int.neg_mul]; omega, Int.add_mul_ediv_right _ _ (by omega)]
  omega
theorem ceil_one {x s : Int} (h1 : 1 ≤ x) (h2 : x ≤ s) : (x + s - 1) / s = 1 := by
  have h := ceil_spec (x := x) (s := s) (by omega) h1
  have h3 : (x + s - 1) / s < 2 := by
    apply Int.ediv_lt_of_lt_mul (by omega)
    omega
  omega
theorem quo_leap {x s : Int} (h1 : 1 ≤ s) (h : 1000 * s < x) : 1000 ≤ x / s ∧ x / s ≤ x ∧ (x / s - 2 - 1 + 1) * s ≤ x - 2 * s ∧ 0 ≤ (x / s - 2 - 1) * s ∧ (x / s - 2 - 1) * s ≤ x := by
  have e : s * (x / s) + x % s = x := Int.mul_ediv_add_emod _ _
  have m0 := Int.emod_nonneg x (show s ≠ 0 by omega)
  have k0 : 1000 ≤ x / s := by
    rw [Int.le_ediv_iff_mul_le (by omega)]
    omega
  have k1 : x / s ≤ x := Int.ediv_le_self _ (by omega)
  generalize x / s = q at *
  have k2 : (q - 2 - 1 + 1) * s = s * q - 2 * s := by rw [show q - 2 - 1 + 1 = q - 2 by omega, Int.sub_mul, Int.mul_comm q s]
  have k3 : (q - 2 - 1) * s = s * q - 3 * s := by rw [show q - 2 - 1 = q - 3 by omega, Int.sub_mul, Int.mul_comm q s]
  have k4 : s * 1000 ≤ s * q := Int.mul_le_mul_of_nonneg_left k0 (by omega)
  omega

theorem leap_big {x s d C : Int} (h1 : 1 ≤ s) (hx : x ≤ 2097152) (h : 1000 * s < x) (hd : 0 ≤ d) (hC : C ≤ 4194304) (he : d + (x + s - 1) / s = C) :
    ∃ M M1 d1 P L1 d2 L2 : Int, wrap64 (x / s - 2) = M ∧ wrap64 (M - 1) = M1 ∧ wrap64 (d + M1) = d1 ∧ wrap64 (M1 * s) = P ∧ wrap64 (x - P) = L1 ∧ wrap64 (d1 + 1) = d2 ∧ wrap64 (L1 - s) = L2 ∧
      1 ≤ L2 ∧ L2 < x ∧ 0 ≤ d2 ∧ d2 ≤ 4194304 ∧ d2 + (L2 + s - 1) / s = C := by
  obtain ⟨k0, k1, k2, k3, k4⟩ := quo_leap h1 h
  have hl := ceil_leap (x := x) (j := x / s - 2 - 1 + 1) h1
  generalize x / s = q at *
  have hm : (q - 2 - 1 + 1) * s = (q - 2 - 1) * s + s := by rw [Int.add_mul, Int.one_mul]
  generalize hP : (q - 2 - 1) * s = P at *
  rw [hm] at k2 hl
  have hc := ceil_spec (x := x - (P + s)) h1 (by omega)
  rw [hl] at hc
  refine ⟨q - 2, q - 2 - 1, d + (q - 2 - 1), P, x - P, d + (q - 2 - 1) + 1, x - P - s, IntWalk.wrap64_in _ (by constructor <;> omega), IntWalk.wrap64_in _ (by constructor <;> omega), IntWalk.wrap64_in _ (by constructor <;> omega), ?_, IntWalk.wrap64_in _ (by constructor <;> omega), IntWalk.wrap64_in _ (by constructor <;> omega), IntWalk.wrap64_in _ (by constructor <;> omega), by omega, by omega, by omega, by omega, ?_⟩
  · rw [hP]
    exact IntWalk.wrap64_in _ (by constructor <;> omega)
  · rw [show x - P - s + s - 1 = x - (P + s) + s - 1 by omega, hl]
    omega
theorem leap_one {x s d C : Int} (h1 : 1 ≤ s) (hx : x ≤ 2097152) (h : s < x) (hd : 0 ≤ d) (hC : C ≤ 4194304) (he : d + (x + s - 1) / s = C) :
    wrap64 (d + 1) = d + 1 ∧ wrap64 (x - s) = x - s ∧ d + 1 ≤ 4194304 ∧ d + 1 + (x - s + s - 1) / s = C := by
  have hl := ceil_leap (x := x) (j := 1) h1
  rw [Int.one_mul] at hl
  have hc := ceil_spec (x := x - s) h1 (by omega)
  rw [hl] at hc
  refine ⟨IntWalk.wrap64_in _ (by constructor <;> omega), IntWalk.wrap64_in _ (by constructor <;> omega), by omega, ?_⟩
  rw [hl]
  omega

set_option maxRecDepth 100000 in
set_option maxHeartbeats 8000000 in
theorem kdelay_any {b r l s : Int} (hf : wrong4 b r l s = false) (w : World) : Calls Try.prog 15 #[.agg #[.int .i64 b, .int .i64 r], .agg #[.int .i64 l, .int .i64 s]] w fun e w' => e = .returned (.int .i64 (kdelay b r l s)) ∧ Below w.heap.size w w' := by
  have HX := Lib.hid (laid2_at w b r l s)
  have hw := delay_way b r l s
  have hr := wrong4_false.1 hf
  unfold kdelay
  generalize delay b r l s = D at *
  cases hw with
  | bad h => rw [hf] at h; cases h
  | zero h h0 =>
    obtain rfl : b = 0 := by omega
    obtain rfl : r = 0 := by omega
    rw [if_pos rfl]
    clear hf h h0 hr
    go_enter Try.func15, Try.ntmps15
    go_upto_region 1 with fail
    change Code.wp _ _ _ _ (laid2 w 0 0 l s)
    generalize laid2 w 0 0 l s = m at *
    obtain ⟨⟨c0, c1⟩, c2, c3⟩ := HX.out.cells
    go_wp2_with fail
    go_ret
    exact ⟨rfl, HX.out.below⟩
  | none h h0 h1 =>
    rw [if_neg (by decide)]
    clear hf h
    by_cases hb : b = 0
    · subst hb
      have hr0 : (r == 0) = false := by simp; omega
      by_cases h2 : s < r
      · clear h0 h1
        go_enter Try.func15, Try.ntmps15
        go_upto_region 1 with fail
        change Code.wp _ _ _ _ (laid2 w 0 r l s)
        generalize laid2 w 0 r l s = m at *
        obtain ⟨⟨c0, c1⟩, c2, c3⟩ := HX.out.cells
        go_wp2_with fail
        go_ret
        exact ⟨rfl, HX.out.below⟩
      · have h3 : s < 1 := by omega
        clear h0 h1
        go_enter Try.func15, Try.ntmps15
        go_upto_region 1 with fail
        change Code.wp _ _ _ _ (laid2 w 0 r l s)
        generalize laid2 w 0 r l s = m at *
        obtain ⟨⟨c0, c1⟩, c2, c3⟩ := HX.out.cells
        go_wp2_with fail
        go_ret
        exact ⟨rfl, HX.out.below⟩
    · have hb0 : (b == 0) = false := by simpa using hb
      by_cases h2 : s < r
      · clear h0 h1 hb
        go_enter Try.func15, Try.ntmps15
        go_upto_region 1 with fail
        change Code.wp _ _ _ _ (laid2 w b r l s)
        generalize laid2 w b r l s = m at *
        obtain ⟨⟨c0, c1⟩, c2, c3⟩ := HX.out.cells
        go_wp2_with fail
        go_ret
        exact ⟨rfl, HX.out.below⟩
      · have h3 : s < 1 := by omega
        clear h0 h1 hb
        go_enter Try.func15, Try.ntmps15
        go_upto_region 1 with fail
        change Code.wp _ _ _ _ (laid2 w b r l s)
        generalize laid2 w b r l s = m at *
        obtain ⟨⟨c0, c1⟩, c2, c3⟩ := HX.out.cells
        go_wp2_with fail
        go_ret
        exact ⟨rfl, HX.out.below⟩
  | some h h0 h1 h2 =>
    rw [if_pos rfl]
    have i2 : ¬ s < r := by omega
    have i3 : ¬ s < 1 := by omega
    have e1 : wrap64 (b + r) = b + r := IntWalk.wrap64_in _ (by constructor <;> omega)
    have e2 : (s == 0) = false := by simp; omega
    have e9 : wrap64 (1000 * s) = 1000 * s := IntWalk.wrap64_in _ (by constructor <;> omega)
    have HL : Hid (late b r l s = l + (b + r + s - 1) / s - 1) := Lib.hid rfl
    have hc := ceil_spec (x := b + r) h1 (by omega)
    have hbr : 1 ≤ b + r := by omega
    have hC : (b + r + s - 1) / s ≤ 3145728 := by
      have : (b + r + s - 1) / s ≤ b + r + s - 1 := Int.ediv_le_self _ (by omega)
      omega
    have HC := Lib.hid hC
    clear hf h hC
    generalize late b r l s = LT at *
    generalize hCC : l + (b + r + s - 1) / s = C at HL
    have hC2 : C ≤ 4194304 := by have := HC.out; omega
    have HCC := Lib.hid hCC
    clear hCC hc HC
    by_cases hb : b = 0
    · have hb0 : (b == 0) = true := by simpa using hb
      have hr0 : (r == 0) = false := by simp; omega
      clear h0 hb
      go_enter Try.func15, Try.ntmps15
      go_upto_region 1 with fail
      change Code.wp _ _ _ _ (laid2 w b r l s)
      generalize laid2 w b r l s = m at *
      obtain ⟨⟨c0, c1⟩, c2, c3⟩ := HX.out.cells
      go_wp2_with fail
      go_loopg [5, 6, 7] (b + r).toNat (fun z dd lf mm wr => ∃ d x : Int, dd = .int .i64 d ∧ lf = .int .i64 x ∧ wr = m ∧ (z : Int) = x ∧ 1 ≤ x ∧ x ≤ 2097152 ∧ 0 ≤ d ∧ d ≤ 4194304 ∧ Hid (d + (x + s - 1) / s = C))
      case atStart => exact ⟨l, b + r, rfl, rfl, rfl, by omega, by omega, by omega, by omega, by omega, HCC⟩
      case round =>
        obtain ⟨d, x, rfl, rfl, rfl, hz, hx0, hx1, hd0, hd1, HE⟩ := hrel
        by_cases k1 : x ≤ s
        · have k2 : ¬ s < x := by omega
          have HR : Hid (d = LT) := Lib.hid (by
            have a1 := HE.out
            have a2 := HL.out
            rw [ceil_one hx0 k1] at a1
            omega)
          go_wp2_with fail
          go_ret
          rw [HR.out]
          exact ⟨rfl, HX.out.below⟩
        · have k2 : s < x := by omega
          by_cases k3 : 1000 * s < x
          · obtain ⟨M, M1, d1, P, L1, d2, L2, q1, q2, q3, q4, q5, q6, q7, q8, q9, q10, q11, q12⟩ := leap_big h1 hx1 k3 hd0 hC2 HE.out
            have HQ := Lib.hid q12
            clear q12 HE e1
            go_wp2_with fail
            go_roundg L2.toNat
            case measure => omega
            case rel => exact ⟨d2, L2, rfl, rfl, rfl, by omega, by omega, by omega, by omega, by omega, HQ⟩
          · obtain ⟨q1, q2, q3, q4⟩ := leap_one h1 hx1 k2 hd0 hC2 HE.out
            have HQ := Lib.hid q4
            clear q4 HE e1
            go_wp2_with fail
            go_roundg (x - s).toNat
            case measure => omega
            case rel => exact ⟨d + 1, x - s, rfl, rfl, rfl, by omega, by omega, by omega, by omega, by omega, HQ⟩
    · have hb0 : (b == 0) = false := by simpa using hb
      clear h0 hb
      go_enter Try.func15, Try.ntmps15
      go_upto_region 1 with fail
      change Code.wp _ _ _ _ (laid2 w b r l s)
      generalize laid2 w b r l s = m at *
      obtain ⟨⟨c0, c1⟩, c2, c3⟩ := HX.out.cells
      go_wp2_with fail
      go_loopg [5, 6, 7] (b + r).toNat (fun z dd lf mm wr => ∃ d x : Int, dd = .int .i64 d ∧ lf = .int .i64 x ∧ wr = m ∧ (z : Int) = x ∧ 1 ≤ x ∧ x ≤ 2097152 ∧ 0 ≤ d ∧ d ≤ 4194304 ∧ Hid (d + (x + s - 1) / s = C))
      case atStart => exact ⟨l, b + r, rfl, rfl, rfl, by omega, by omega, by omega, by omega, by omega, HCC⟩
      case round =>
        obtain ⟨d, x, rfl, rfl, rfl, hz, hx0, hx1, hd0, hd1, HE⟩ := hrel
        by_cases k1 : x ≤ s
        · have k2 : ¬ s < x := by omega
          have HR : Hid (d = LT) := Lib.hid (by
            have a1 := HE.out
            have a2 := HL.out
            rw [ceil_one hx0 k1] at a1
            omega)
          go_wp2_with fail
          go_ret
          rw [HR.out]
          exact ⟨rfl, HX.out.below⟩
        · have k2 : s < x := by omega
          by_cases k3 : 1000 * s < x
          · obtain ⟨M, M1, d1, P, L1, d2, L2, q1, q2, q3, q4, q5, q6, q7, q8, q9, q10, q11, q12⟩ := leap_big h1 hx1 k3 hd0 hC2 HE.out
            have HQ := Lib.hid q12
            clear q12 HE e1
            go_wp2_with fail
            go_roundg L2.toNat
            case measure => omega
            case rel => exact ⟨d2, L2, rfl, rfl, rfl, by omega, by omega, by omega, by omega, by omega, HQ⟩
          · obtain ⟨q1, q2, q3, q4⟩ := leap_one h1 hx1 k2 hd0 hC2 HE.out
            have HQ := Lib.hid q4
            clear q4 HE e1
            go_wp2_with fail
            go_roundg (x - s).toNat
            case measure => omega
            case rel => exact ⟨d + 1, x - s, rfl, rfl, rfl, by omega, by omega, by omega, by omega, by omega, HQ⟩
end Go.Proofs.Ytdlmiiekcpbdcaa
