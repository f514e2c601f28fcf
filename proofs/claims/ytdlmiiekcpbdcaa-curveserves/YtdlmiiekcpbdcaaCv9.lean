/- The reference: KKeeps. -/
import Derived.Test.YtdlmiiekcpbdcaaCv7
namespace Go.Proofs.Ytdlmiiekcpbdcaa
open Go.RowKit Go.Maps

theorem runGo_next {b r a : Int} {xs : List Int} {i : Nat} {x : Int} (h : xs[i]? = some x) : runGo b r a (xs.drop i) = (decide (a + x - r ≤ b) && runGo b r (a + x - r) (xs.drop (i + 1))) := by
  rw [drop_next h]; rfl
theorem allRun_next {b r : Int} {xs : List Int} {i : Nat} {x : Int} (h : xs[i]? = some x) : allRun b r (xs.drop i) = (runGo b r 0 (xs.drop i) && allRun b r (xs.drop (i + 1))) := by
  rw [drop_next h]; rfl
/-- The numbers of an inner round: j units behind i, with the sum of what came. -/
theorem kk_sums {b r sm x : Int} {i j n : Nat} (hb : 0 ≤ b ∧ b ≤ 1048576) (hr : 0 ≤ r ∧ r ≤ 1048576) (hx : 0 ≤ x ∧ x ≤ 1048576) (hs : 0 ≤ sm ∧ sm ≤ 1048576 * ((j : Int) - (i : Int))) (hij : i ≤ j) (hj : j < n) (hn : n ≤ 400) :
    ∃ S P T : Int, wrap64 (sm + x) = S ∧ wrap64 (r * ((j : Int) - (i : Int) + 1)) = P ∧ wrap64 (b + P) = T ∧ S = sm + x ∧ T = b + r * ((j : Int) - (i : Int)) + r := by
  have h1 : 0 ≤ r * ((j : Int) - (i : Int)) := Int.mul_nonneg hr.1 (by omega)
  have h2 : r * ((j : Int) - (i : Int)) ≤ 1048576 * 400 := Int.mul_le_mul hr.2 (by omega) (by omega) (by decide)
  have h3 : r * ((j : Int) - (i : Int) + 1) = r * ((j : Int) - (i : Int)) + r := by rw [Int.mul_add, Int.mul_one]
  refine ⟨sm + x, r * ((j : Int) - (i : Int)) + r, b + (r * ((j : Int) - (i : Int)) + r), IntWalk.wrap64_in _ (by constructor <;> omega), ?_, ?_, rfl, by omega⟩
  · rw [h3]
    exact IntWalk.wrap64_in _ (by constructor <;> omega)
  · exact IntWalk.wrap64_in _ (by constructor <;> omega)

set_option maxRecDepth 100000 in
set_option maxHeartbeats 8000000 in
theorem kkeeps_any {w : World} {xs : List Int} {A : Option Addr} (hP : IntsIn w A xs) (cap : Nat) {b r : Int} (hb : 0 ≤ b ∧ b ≤ 1048576) (hr : 0 ≤ r ∧ r ≤ 1048576) (ht : wtr xs = false) :
    Calls Try.prog 18 #[.agg #[.int .i64 b, .int .i64 r], .slice A xs.length cap] w fun e w' => e = .returned (.bool (allRun b r xs)) ∧ Below w.heap.size w w' := by
  have HX := Lib.hid (laidC_at w b r)
  have HI := Lib.hid (hP.below (laidC_at w b r).2.1)
  obtain ⟨n, hn⟩ : ∃ n, xs.length = n := ⟨_, rfl⟩
  have HN := Lib.hid hn
  have ht2 := wtr_false.1 ht
  have hn4 : n ≤ 400 := by omega
  have HT := Lib.hid ht2.2
  rw [hn]
  clear hP hn ht ht2
  have HR : Hid (allRun b r xs = allRun b r (xs.drop 0)) := Lib.hid rfl
  generalize allRun b r xs = R at *
  go_enter Try.func18, Try.ntmps18
  go_upto_region 1 with fail
  change Code.wp _ _ _ _ (laidC w b r)
  generalize laidC w b r = m at *
  obtain ⟨c0, c1⟩ := HX.out.1.cells
  go_wp2_with fail
  go_loopg [5, 6, 7, 10] n (fun z v5 v6 v7 c wr => ∃ i : Nat, c = .int .i64 (i : Int) ∧ i + z = n ∧ wr = m ∧ Hid (R = allRun b r (xs.drop i)))
  case atStart => exact ⟨0, rfl, by omega, rfl, HR⟩
  case round =>
    clear HR
    obtain ⟨i, rfl, hik, rfl, HE⟩ := hrel
    cases gk with
    | zero =>
      obtain rfl : i = n := by omega
      have HZ : Hid (R = true) := Lib.hid (by
        rw [HE.out, ← HN.out, List.drop_length]
        rfl)
      clear HE HN HT HI
      go_wp2_with fail
      go_ret
      rw [HZ.out]
      exact ⟨rfl, HX.out.2.1⟩
    | succ k =>
      have hi : i < n := by omega
      have i1 : (i : Int) < (n : Int) := by omega
      have hx0 := List.getElem?_eq_getElem (l := xs) (i := i) (by have := HN.out; omega)
      have he := HE.out
      rw [allRun_next hx0] at he
      have HE2 := Lib.hid he
      have HIL := Lib.hid hik
      clear hx0 he HE hik
      generalize hR1 : allRun b r (xs.drop (i + 1)) = R1 at *
      have HR1 := Lib.hid hR1
      clear hR1
      go_wp2_with fail
      go_loopg [6, 7] (n - i) (fun z2 p c wr2 => ∃ (j : Nat) (sm : Int), p = .int .i64 sm ∧ c = .int .i64 (j : Int) ∧ j + z2 = n ∧ i ≤ j ∧ wr2 = wr ∧ 0 ≤ sm ∧ sm ≤ 1048576 * ((j : Int) - (i : Int)) ∧ Hid (runGo b r 0 (xs.drop i) = runGo b r (sm - r * ((j : Int) - (i : Int))) (xs.drop j)))
      case atStart => exact ⟨i, 0, rfl, rfl, by omega, Nat.le_refl _, rfl, by omega, by omega, Lib.hid (by rw [Int.sub_self, Int.mul_zero, Int.sub_zero])⟩
      case round =>
        obtain ⟨j, sm, rfl, rfl, hjk, hij, rfl, hs0, hs1, HG⟩ := hrel
        cases gk with
        | zero =>
          obtain rfl : j = n := by omega
          have HZ : Hid (R = R1) := Lib.hid (by
            have h1 := HG.out
            rw [show xs.drop j = [] from List.drop_eq_nil_of_le (by have := HN.out; omega)] at h1
            rw [HE2.out, h1]
            rfl)
          clear HG HE2 HT HN
          go_wp2_with fail
          go_roundg k
          case measure => omega
          case rel => exact ⟨i + 1, by go_num, by have := HIL.out; omega, rfl, Lib.hid (by rw [HZ.out, HR1.out])⟩
        | succ k2 =>
          have hj : j < n := by omega
          have i2 : (j : Int) < (n : Int) := by omega
          obtain ⟨a0, off, x, rfl, hx, hat, _⟩ := HI.out.next (i := j) (by have := HN.out; omega)
          have hx2 := HT.out x (List.mem_of_getElem? hx)
          obtain ⟨S, P, T, q1, q2, q3, hS, hT⟩ := kk_sums hb hr hx2 ⟨hs0, hs1⟩ hij hj hn4
          have hg := HG.out
          rw [runGo_next hx] at hg
          have ha : sm - r * ((j : Int) - (i : Int)) + x - r = S - r * (((j + 1 : Nat) : Int) - (i : Int)) := by
            rw [show ((j + 1 : Nat) : Int) - (i : Int) = (j : Int) - (i : Int) + 1 by omega, Int.mul_add, Int.mul_one]
            omega
          by_cases hst : S ≤ T
          · have i3 : ¬ T < S := by omega
            rw [decide_eq_true (show sm - r * ((j : Int) - (i : Int)) + x - r ≤ b by omega), Bool.true_and, ha] at hg
            have HQ := Lib.hid hg
            have hb1 : S ≤ 1048576 * (((j + 1 : Nat) : Int) - (i : Int)) := by omega
            have hb0 : 0 ≤ S := by omega
            have HB := Lib.hid (And.intro hb0 hb1)
            clear hg HG hx hx2 hS hT ha hb0 hb1 hs0 hs1 HE2 HT HR1 HN
            go_wp2_with fail
            go_roundg k2
            case measure => omega
            case rel => exact ⟨j + 1, S, rfl, by go_num, by omega, by omega, rfl, HB.out.1, HB.out.2, HQ⟩
          · have i3 : T < S := by omega
            rw [decide_eq_false (show ¬ sm - r * ((j : Int) - (i : Int)) + x - r ≤ b by omega), Bool.false_and] at hg
            have HZ : Hid (R = false) := Lib.hid (by rw [HE2.out, hg]; rfl)
            clear hg HG hx hx2 hS hT ha hs0 hs1 HE2 HT HR1 HN
            go_wp2_with fail
            go_ret
            rw [HZ.out]
            exact ⟨rfl, HX.out.2.1⟩
end Go.Proofs.Ytdlmiiekcpbdcaa
