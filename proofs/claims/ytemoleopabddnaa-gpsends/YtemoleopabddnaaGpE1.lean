/- The reference's MWrong: a contract. -/
import Derived.Test.YtemoleopabddnaaGp3
namespace Go.Proofs.Ytemoleopabddnaa
open Go.RowKit Go.Maps

/-- The numbers among the first i are right. -/
def fineR (xs ys : List Int) (i : Nat) : Bool := decide (xs.length ≤ 16) && ((xs.take i).all (fun x => !am x) && (ys.take i).all (fun y => !wg y))
theorem fineR_succ {xs ys : List Int} {i : Nat} {x y : Int} (hx : xs[i]? = some x) (hy : ys[i]? = some y) : fineR xs ys (i + 1) = (fineR xs ys i && (!am x && !wg y)) := by
  unfold fineR
  rw [take_snocI hx, take_snocI hy, List.all_append, List.all_append]
  simp only [List.all_cons, List.all_nil, Bool.and_true]
  cases decide (xs.length ≤ 16) <;> cases (xs.take i).all (fun x => !am x) <;> cases (ys.take i).all (fun y => !wg y) <;> cases am x <;> cases wg y <;> rfl
theorem fineR_end {xs ys : List Int} (h : xs.length = ys.length) : wrongL xs ys = if fineR xs ys xs.length = true then 0 else 2 := by
  unfold wrongL fineR
  rw [if_neg (by omega), List.take_of_length_le (by omega), List.take_of_length_le (by omega)]
  have e1 : xs.any am = !(xs.all (fun x => !am x)) := by rw [List.not_all_eq_any_not]; congr 1; funext x; simp
  have e2 : ys.any wg = !(ys.all (fun x => !wg x)) := by rw [List.not_all_eq_any_not]; congr 1; funext x; simp
  rw [e1, e2]
  by_cases c : xs.length ≤ 16
  · rw [decide_eq_true c, decide_eq_false (show ¬ 16 < (xs.length : Int) by omega)]
    cases xs.all (fun x => !am x) <;> cases ys.all (fun x => !wg x) <;> rfl
  · rw [decide_eq_false c, decide_eq_true (show 16 < (xs.length : Int) by omega)]
    cases xs.all (fun x => !am x) <;> cases ys.all (fun x => !wg x) <;> rfl
set_option maxRecDepth 100000 in
set_option maxHeartbeats 4000000 in
theorem mwrong_any {w : World} {A B : Option Addr} {xs ys : List Int} (hx : IntsIn w A xs) (hy : IntsIn w B ys) (cx cy : Nat) :
    Calls Try.prog 12 #[.slice A xs.length cx, .slice B ys.length cy] w fun e w' => e = .returned (.int .i64 (wrongL xs ys)) ∧ ∃ q, w' = w.drewN q := by
  have hlen := hx.len
  by_cases hl : xs.length = ys.length
  · have HE := Lib.hid (fineR_end hl)
    obtain ⟨n, hn⟩ : ∃ n, xs.length = n := ⟨_, rfl⟩
    have hm : ys.length = n := by omega
    have HN := Lib.hid (And.intro hn hm)
    have HX := Lib.hid hx
    have HY := Lib.hid hy
    obtain ⟨J0, hJ0⟩ : ∃ J, decide ((n : Int) ≤ 16) = J := ⟨_, rfl⟩
    have HJ0 : Hid (J0 = fineR xs ys 0 ∧ decide ((n : Int) ≤ 16) = J0) := Lib.hid ⟨by
      unfold fineR
      rw [hn, ← hJ0, List.take_zero, List.take_zero, List.all_nil, List.all_nil, Bool.and_true, Bool.and_true]
      congr 1
      exact propext (by omega), hJ0⟩
    have HZ : Hid (∀ J : Bool, J = fineR xs ys n → (J = true → wrongL xs ys = 0) ∧ (J = false → wrongL xs ys = 2)) := Lib.hid (fun J hJ => by
      have := HE.out
      rw [hn, ← hJ] at this
      rw [this]
      exact ⟨fun h => by rw [h]; rfl, fun h => by rw [h]; rfl⟩)
    rw [hn] at hlen ⊢
    rw [hm]
    generalize wrongL xs ys = E at *
    clear hx hy hl HE hn hm
    go_enter Try.func12, Try.ntmps12
    clear hJ0
    go_wp2_with fail
    go_loopg [5, 17] n (fun k s c wr => ∃ (i : Nat) (J : Bool), s = .bool J ∧ c = .int .i64 (i : Int) ∧ i + k = n ∧ wr = w ∧ Hid (J = fineR xs ys i))
    case atStart => exact ⟨0, J0, by rw [HJ0.out.2], rfl, by omega, rfl, Lib.hid HJ0.out.1⟩
    case round =>
      clear HJ0
      obtain ⟨i, J, rfl, rfl, hik, rfl, HI⟩ := hrel
      cases gk with
      | zero =>
        obtain rfl : i = n := by omega
        have hz := HZ.out J HI.out
        clear HI HZ HN HX HY
        cases J with
        | true =>
          obtain rfl := hz.1 rfl
          clear hz
          go_wp2_with fail
          go_ret
          exact ⟨rfl, 0, rfl⟩
        | false =>
          obtain rfl := hz.2 rfl
          clear hz
          go_wp2_with fail
          go_ret
          exact ⟨rfl, 0, rfl⟩
      | succ k =>
        have hi : i < n := by omega
        have i1 : (i : Int) < (n : Int) := by omega
        obtain ⟨b0, o0, x, rfl, hx, hcx, _⟩ := HX.out.next (i := i) (by rw [HN.out.1]; exact hi)
        obtain ⟨b1, o1, y, rfl, hy, hcy, _⟩ := HY.out.next (i := i) (by rw [HN.out.2]; exact hi)
        have HS : Hid (∀ J', J' = (J && (!am x && !wg y)) → J' = fineR xs ys (i + 1)) := Lib.hid (fun J' h => by rw [h, fineR_succ hx hy, ← HI.out])
        have HA : Hid ((am x = true ↔ x < 0 ∨ 1048576 < x) ∧ (wg y = true ↔ y < 1 ∨ 1000 < y)) := Lib.hid (by
          unfold am wg
          constructor <;> rw [Bool.or_eq_true, decide_eq_true_iff, decide_eq_true_iff])
        have HIK := Lib.hid hik
        clear hx hy HI HX HY HN HZ hik
        cases J with
        | false =>
          have HT := Lib.hid (HS.out false rfl)
          clear HS HA
          go_wp2_with fail
          go_roundg k
          case measure => omega
          case rel => exact ⟨i + 1, false, rfl, by go_num, by have := HIK.out; omega, rfl, HT⟩
        | true =>
          by_cases c1 : x < 0
          · have HT := Lib.hid (HS.out false (by rw [HA.out.1.2 (.inl c1)]; rfl))
            have d1 : ¬ 0 ≤ x := by omega
            clear HS HA c1
            go_wp2_with fail
            go_roundg k
            case measure => omega
            case rel => exact ⟨i + 1, false, by first | rfl | simp [d1], by go_num, by have := HIK.out; omega, rfl, HT⟩
          · have d1 : 0 ≤ x := by omega
            by_cases c2 : 1048576 < x
            · have HT := Lib.hid (HS.out false (by rw [HA.out.1.2 (.inr c2)]; rfl))
              have d2 : ¬ x ≤ 1048576 := by omega
              clear HS HA c1 c2
              go_wp2_with fail
              go_roundg k
              case measure => omega
              case rel => exact ⟨i + 1, false, by first | rfl | simp [d1, d2], by go_num, by have := HIK.out; omega, rfl, HT⟩
            · have d2 : x ≤ 1048576 := by omega
              have ha : am x = false := by
                rw [Bool.eq_false_iff, Ne, HA.out.1]
                omega
              by_cases c3 : y < 1
              · have HT := Lib.hid (HS.out false (by rw [ha, HA.out.2.2 (.inl c3)]; rfl))
                have d3 : ¬ 0 < y := by omega
                clear HS HA c1 c2 c3 ha
                go_wp2_with fail
                go_roundg k
                case measure => omega
                case rel => exact ⟨i + 1, false, by first | rfl | simp [d1, d2, d3], by go_num, by have := HIK.out; omega, rfl, HT⟩
              · have d3 : 0 < y := by omega
                by_cases c4 : 1000 < y
                · have HT := Lib.hid (HS.out false (by rw [ha, HA.out.2.2 (.inr c4)]; rfl))
                  have d4 : ¬ y ≤ 1000 := by omega
                  clear HS HA c1 c2 c3 c4 ha
                  go_wp2_with fail
                  go_roundg k
                  case measure => omega
                  case rel => exact ⟨i + 1, false, by first | rfl | simp [d1, d2, d3, d4], by go_num, by have := HIK.out; omega, rfl, HT⟩
                · have d4 : y ≤ 1000 := by omega
                  have hw : wg y = false := by
                    rw [Bool.eq_false_iff, Ne, HA.out.2]
                    omega
                  have HT := Lib.hid (HS.out true (by rw [ha, hw]; rfl))
                  clear HS HA c1 c2 c3 c4 ha hw
                  go_wp2_with fail
                  go_roundg k
                  case measure => omega
                  case rel => exact ⟨i + 1, true, by first | rfl | simp [d1, d2, d3, d4], by go_num, by have := HIK.out; omega, rfl, HT⟩
  · have hb : ((xs.length : Int) != (ys.length : Int)) = true := by simp; omega
    have he : wrongL xs ys = 1 := by unfold wrongL; rw [if_pos hl]
    rw [he]
    clear he hl hx hy
    go_enter Try.func12, Try.ntmps12
    go_wp2_with fail
    go_ret
    exact ⟨rfl, 0, rfl⟩
end Go.Proofs.Ytemoleopabddnaa
