/- The reference's NWrong: a contract. -/
import Derived.Test.YtgphbplmkegdeaaDr1
namespace Go.Proofs.Ytgphbplmkegdeaa
open Go.RowKit Go.Maps

/-- The flows ahead of i are right. -/
def fineR (xs : List Int) (fs : List (List Int)) (i : Nat) : Bool := decide (xs.length ≤ 16) && ((xs.take i).all (fun x => !wq x) && (fs.take i).all (fun y => !wf y))
theorem fineR_succ {xs : List Int} {fs : List (List Int)} {i : Nat} {x : Int} {y : List Int} (hx : xs[i]? = some x) (hy : fs[i]? = some y) : fineR xs fs (i + 1) = (fineR xs fs i && (!wq x && !wf y)) := by
  unfold fineR
  rw [take_snocI hx, take_snocL hy, List.all_append, List.all_append]
  simp only [List.all_cons, List.all_nil, Bool.and_true]
  cases decide (xs.length ≤ 16) <;> cases (xs.take i).all (fun x => !wq x) <;> cases (fs.take i).all (fun y => !wf y) <;> cases wq x <;> cases wf y <;> rfl
theorem fineR_end {xs : List Int} {fs : List (List Int)} (h : xs.length = fs.length) : wrongL xs fs = if fineR xs fs xs.length = true then 0 else 2 := by
  unfold wrongL fineR
  rw [if_neg (by omega), List.take_of_length_le (by omega), List.take_of_length_le (by omega)]
  have e1 : xs.any wq = !(xs.all (fun x => !wq x)) := by rw [List.not_all_eq_any_not]; congr 1; funext x; simp
  have e2 : fs.any wf = !(fs.all (fun x => !wf x)) := by rw [List.not_all_eq_any_not]; congr 1; funext x; simp
  rw [e1, e2]
  by_cases c : xs.length ≤ 16
  · rw [decide_eq_true c, decide_eq_false (show ¬ 16 < (fs.length : Int) by omega)]
    cases xs.all (fun x => !wq x) <;> cases fs.all (fun x => !wf x) <;> rfl
  · rw [decide_eq_false c, decide_eq_true (show 16 < (fs.length : Int) by omega)]
    cases xs.all (fun x => !wq x) <;> cases fs.all (fun x => !wf x) <;> rfl
/-- On the way through a flow's packets. -/
def onWay (J : Bool) (f : List Int) (j : Nat) : Bool := J && (f.take j).all (fun p => !ws p)
theorem onWay_succ {J : Bool} {f : List Int} {j : Nat} {p : Int} (h : f[j]? = some p) : onWay J f (j + 1) = (onWay J f j && !ws p) := by
  unfold onWay
  rw [take_snocI h, List.all_append]
  simp only [List.all_cons, List.all_nil, Bool.and_true]
  cases J <;> cases (f.take j).all (fun p => !ws p) <;> cases ws p <;> rfl
theorem onWay_end {J : Bool} {x : Int} {f : List Int} : onWay (J && (!wq x && decide ((f.length : Int) ≤ 400))) f f.length = (J && (!wq x && !wf f)) := by
  unfold onWay wf
  rw [List.take_of_length_le (Nat.le_refl _)]
  have e1 : f.any ws = !(f.all (fun x => !ws x)) := by rw [List.not_all_eq_any_not]; congr 1; funext x; simp
  rw [e1]
  by_cases c : (f.length : Int) ≤ 400
  · rw [decide_eq_true c, decide_eq_false (show ¬ 400 < (f.length : Int) by omega)]
    cases J <;> cases wq x <;> cases f.all (fun x => !ws x) <;> rfl
  · rw [decide_eq_false c, decide_eq_true (show 400 < (f.length : Int) by omega)]
    cases J <;> cases wq x <;> cases f.all (fun x => !ws x) <;> rfl

set_option maxRecDepth 100000 in
set_option maxHeartbeats 8000000 in
theorem nwrong_any {w : World} {A B : Option Addr} {xs : List Int} {fs : List (List Int)} (hx : IntsIn w A xs) (hy : ListsIn w B fs) (cx cy : Nat) :
    Calls Try.prog 11 #[.slice A xs.length cx, .slice B fs.length cy] w fun e w' => e = .returned (.int .i64 (wrongL xs fs)) ∧ w = w' := by
  have hlen := hx.len
  by_cases hl : xs.length = fs.length
  · have HE := Lib.hid (fineR_end hl)
    obtain ⟨n, hn⟩ : ∃ n, xs.length = n := ⟨_, rfl⟩
    have hm : fs.length = n := by omega
    have HN := Lib.hid (And.intro hn hm)
    have HX := Lib.hid hx
    have HY := Lib.hid hy
    obtain ⟨J0, hJ0⟩ : ∃ J, decide ((n : Int) ≤ 16) = J := ⟨_, rfl⟩
    have HJ0 : Hid (J0 = fineR xs fs 0 ∧ decide ((n : Int) ≤ 16) = J0) := Lib.hid ⟨by
      unfold fineR
      rw [hn, ← hJ0, List.take_zero, List.take_zero, List.all_nil, List.all_nil, Bool.and_true, Bool.and_true]
      congr 1
      exact propext (by omega), hJ0⟩
    have HZ : Hid (∀ J : Bool, J = fineR xs fs n → (J = true → wrongL xs fs = 0) ∧ (J = false → wrongL xs fs = 2)) := Lib.hid (fun J hJ => by
      have := HE.out
      rw [hn, ← hJ] at this
      rw [this]
      exact ⟨fun h => by rw [h]; rfl, fun h => by rw [h]; rfl⟩)
    rw [hn] at hlen ⊢
    rw [hm]
    generalize wrongL xs fs = E at *
    clear hx hy hl HE hn hm
    go_enter Try.func11, Try.ntmps11
    clear hJ0
    go_wp2_with fail
    go_loopg [5, 20] n (fun k s c wr => ∃ (i : Nat) (J : Bool), s = .bool J ∧ c = .int .i64 (i : Int) ∧ i + k = n ∧ wr = w ∧ Hid (J = fineR xs fs i))
    case atStart => exact ⟨0, J0, by rw [HJ0.out.2], rfl, by omega, rfl, Lib.hid HJ0.out.1⟩
    case round =>
      clear HJ0
      obtain ⟨i, J, rfl, rfl, hik, rfl, HI⟩ := hrel
      cases gk with
      | zero =>
        obtain rfl : i = n := by omega
        have hz := HZ.out J HI.out
        clear HI HZ HN HX HY
        cases J with
        | true =>
          obtain rfl := hz.1 rfl
          clear hz
          go_wp2_with fail
          go_ret
          exact ⟨rfl, rfl⟩
        | false =>
          obtain rfl := hz.2 rfl
          clear hz
          go_wp2_with fail
          go_ret
          exact ⟨rfl, rfl⟩
      | succ k =>
        have hi : i < n := by omega
        have i1 : (i : Int) < (n : Int) := by omega
        obtain ⟨b0, o0, x, rfl, hx, hcx, _⟩ := HX.out.next (i := i) (by rw [HN.out.1]; exact hi)
        obtain ⟨b1, o1, f, Bf, cf, rfl, hy, hcy, hin, -, -⟩ := HY.out.next (i := i) (by rw [HN.out.2]; exact hi)
        have HS : Hid (∀ J', J' = (J && (!wq x && !wf f)) → J' = fineR xs fs (i + 1)) := Lib.hid (fun J' h => by rw [h, fineR_succ hx hy, ← HI.out])
        obtain ⟨l, hl⟩ : ∃ l, f.length = l := ⟨_, rfl⟩
        have HL := Lib.hid (And.intro hl hin)
        have hfl := hin.len
        rw [hl] at hcy hfl
        obtain ⟨J1, hJ1⟩ : ∃ J1, (J && (!wq x && decide ((l : Int) ≤ 400))) = J1 := ⟨_, rfl⟩
        have HEND : Hid (∀ J', J' = onWay J1 f l → J' = fineR xs fs (i + 1)) := Lib.hid (fun J' h => HS.out J' (by
          rw [h, ← hJ1, ← hl]
          exact onWay_end))
        have HJ1 := Lib.hid hJ1
        have HIK := Lib.hid hik
        have HAR : Hid (J1 = true → 0 < x ∧ x ≤ 10000 ∧ (l : Int) ≤ 400 ∧ J = true) := Lib.hid (fun h => by
          rw [h] at hJ1
          simp only [Bool.and_eq_true, Bool.not_eq_true', decide_eq_true_iff] at hJ1
          have := wq_false.1 hJ1.2.1
          exact ⟨by omega, this.2, hJ1.2.2, hJ1.1⟩)
        have HAF : Hid (J = true → J1 = false → ¬ (0 < x ∧ x ≤ 10000 ∧ (l : Int) ≤ 400)) := Lib.hid (fun h1 h2 h3 => by
          rw [h1, h2, wq_false.2 (by omega), decide_eq_true h3.2.2] at hJ1
          cases hJ1)
        clear hl hin hx hy HI HX HY HN HZ hik HS hJ1
        go_upto_region 7 with fail
        clear hcy
        go_cut [5] (fun v wx => v = .bool J1 ∧ wx = wr)
        case first =>
          cases J with
          | false =>
            obtain rfl : J1 = false := by
              have := HJ1.out
              rw [Bool.false_and] at this
              exact this.symm
            clear HJ1 HAR HAF HEND HL HIK
            go_wp2_with fail
            go_meet
            exact ⟨rfl, rfl⟩
          | true =>
            cases J1 with
            | true =>
              obtain ⟨d1, d2, d3, -⟩ := HAR.out rfl
              clear HJ1 HAR HAF HEND HL HIK
              go_wp2_with fail
              go_meet
              exact ⟨by first | rfl | simp, rfl⟩
            | false =>
              have hn := HAF.out rfl rfl
              clear HJ1 HAR HAF HEND HL HIK
              by_cases c1 : 0 < x
              · by_cases c2 : x ≤ 10000
                · have c3 : ¬ (l : Int) ≤ 400 := fun c3 => hn ⟨c1, c2, c3⟩
                  clear hn
                  go_wp2_with fail
                  go_meet
                  exact ⟨by first | rfl | simp, rfl⟩
                · clear hn
                  go_wp2_with fail
                  go_meet
                  exact ⟨by first | rfl | simp, rfl⟩
              · clear hn
                go_wp2_with fail
                go_meet
                exact ⟨by first | rfl | simp, rfl⟩
        case rest =>
          obtain ⟨rfl, rfl⟩ := hcut
          clear HJ1 HAR HAF
          go_wp2_with fail
          go_loopg [5, 47] l (fun z s c wi => ∃ (j : Nat) (K : Bool), s = .bool K ∧ c = .int .i64 (j : Int) ∧ j + z = l ∧ wi = wc ∧ Hid (K = onWay J1 f j))
          case atStart => exact ⟨0, J1, rfl, rfl, by omega, rfl, Lib.hid (by unfold onWay; rw [List.take_zero, List.all_nil, Bool.and_true])⟩
          case round =>
            obtain ⟨j, K, rfl, rfl, hjk, rfl, HJ⟩ := hrel
            cases gk with
            | zero =>
              obtain rfl : j = l := by omega
              have HF := Lib.hid (HEND.out K HJ.out)
              clear HJ HEND HL
              go_wp2_with fail
              go_roundg k
              case measure => omega
              case rel => exact ⟨i + 1, K, rfl, by go_num, by have := HIK.out; omega, rfl, HF⟩
            | succ z =>
              have hj : j < l := by omega
              have j1 : (j : Int) < (l : Int) := by omega
              obtain ⟨b2, o2, p, rfl, hx, hcp, -⟩ := HL.out.2.next (i := j) (by rw [HL.out.1]; exact hj)
              have HS : Hid (∀ K', K' = (K && !ws p) → K' = onWay J1 f (j + 1)) := Lib.hid (fun K' h => by rw [h, onWay_succ hx, ← HJ.out])
              have HWS : Hid (ws p = true ↔ p < 1 ∨ 1500 < p) := Lib.hid (by unfold ws; rw [Bool.or_eq_true, decide_eq_true_iff, decide_eq_true_iff])
              have HJK := Lib.hid hjk
              clear hx HJ HL HEND hjk
              cases K with
              | false =>
                have HT := Lib.hid (HS.out false rfl)
                clear HS HWS
                go_wp2_with fail
                go_roundg z
                case measure => omega
                case rel => exact ⟨j + 1, false, rfl, by go_num, by have := HJK.out; omega, rfl, HT⟩
              | true =>
                by_cases c1 : 0 < p
                · by_cases c2 : p ≤ 1500
                  · have hw : ws p = false := by rw [Bool.eq_false_iff, Ne, HWS.out]; omega
                    have HT := Lib.hid (HS.out true (by rw [hw]; rfl))
                    clear HS HWS hw
                    go_wp2_with fail
                    go_roundg z
                    case measure => omega
                    case rel => exact ⟨j + 1, true, by first | rfl | simp [c1, c2], by go_num, by have := HJK.out; omega, rfl, HT⟩
                  · have HT := Lib.hid (HS.out false (by rw [HWS.out.2 (.inr (by omega))]; rfl))
                    clear HS HWS
                    go_wp2_with fail
                    go_roundg z
                    case measure => omega
                    case rel => exact ⟨j + 1, false, by first | rfl | simp [c1, c2], by go_num, by have := HJK.out; omega, rfl, HT⟩
                · have HT := Lib.hid (HS.out false (by rw [HWS.out.2 (.inl (by omega))]; rfl))
                  clear HS HWS
                  go_wp2_with fail
                  go_roundg z
                  case measure => omega
                  case rel => exact ⟨j + 1, false, by first | rfl | simp [c1], by go_num, by have := HJK.out; omega, rfl, HT⟩
  · have hb : ((xs.length : Int) != (fs.length : Int)) = true := by simp; omega
    have he : wrongL xs fs = 1 := by unfold wrongL; rw [if_pos hl]
    rw [he]
    clear he hl hx hy
    go_enter Try.func11, Try.ntmps11
    go_wp2_with fail
    go_ret
    exact ⟨rfl, rfl⟩
end Go.Proofs.Ytgphbplmkegdeaa
