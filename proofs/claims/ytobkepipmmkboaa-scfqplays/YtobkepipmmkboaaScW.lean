/- The reference's OWrong. -/
import Derived.Test.YtobkepipmmkboaaSc1
namespace Go.Proofs.Ytobkepipmmkboaa
open Go.RowKit Go.Maps

/-- Is all right so far? -/
def okL (xs : List Int) (i : Nat) : Bool := decide ((xs.length : Int) < 17) && (xs.take i).all fun x => !ww x
theorem okL_succ {xs : List Int} {i : Nat} {x : Int} (h : xs[i]? = some x) : okL xs (i + 1) = (okL xs i && !ww x) := by
  unfold okL
  rw [List.take_add_one, h, List.all_append]
  simp [Bool.and_assoc]
theorem okL_all (xs : List Int) : wrongL xs = if okL xs xs.length = true then 0 else 2 := by
  have h : ∀ l : List Int, (l.all fun x => !ww x) = !l.any ww := by
    intro l
    induction l with
    | nil => rfl
    | cons x l ih => rw [List.all_cons, List.any_cons, ih, Bool.not_or]
  unfold okL wrongL
  rw [List.take_length, h]
  by_cases c : (xs.length : Int) < 17
  · rw [decide_eq_true c, decide_eq_false (show ¬ 16 < (xs.length : Int) by omega)]
    cases xs.any ww <;> rfl
  · rw [decide_eq_false c, decide_eq_true (show 16 < (xs.length : Int) by omega)]
    rfl
set_option maxRecDepth 100000 in
set_option maxHeartbeats 4000000 in
theorem oWrong_any {w : World} {A : Option Addr} {xs : List Int} (hx : IntsIn w A xs) (cx : Nat) :
    Calls Try.prog 8 #[.slice A xs.length cx] w fun e w' => e = .returned (.int .i64 (wrongL xs)) ∧ w = w' := by
  have HW := Lib.hid (okL_all xs)
  have h0 : okL xs 0 = decide ((xs.length : Int) < 17) := by unfold okL; simp
  obtain ⟨n, hn⟩ : ∃ n, xs.length = n := ⟨_, rfl⟩
  have HX := Lib.hid hx
  have HN := Lib.hid hn
  have hl := hx.len
  rw [hn] at HW hl h0 ⊢
  clear hx hn
  go_enter Try.func8, Try.ntmps8
  go_wp2_with fail
  go_loopg [11, 3] n (fun z c b wr => ∃ i : Nat, c = .int .i64 (i : Int) ∧ b = .bool (okL xs i) ∧ i + z = n ∧ wr = w)
  case atStart => exact ⟨0, rfl, by rw [h0], by omega, rfl⟩
  case round =>
    clear h0
    obtain ⟨i, rfl, rfl, hiz, rfl⟩ := hrel
    cases gk with
    | zero =>
      obtain rfl : i = n := by omega
      have HQ := Lib.hid HW.out
      clear HW
      cases hk : okL xs i with
      | true =>
        rw [hk, if_pos rfl] at HQ
        clear hk
        go_wp2_with fail
        go_ret
        exact ⟨ret_int HQ.out.symm, rfl⟩
      | false =>
        rw [hk, if_neg (by decide)] at HQ
        clear hk
        go_wp2_with fail
        go_ret
        exact ⟨ret_int HQ.out.symm, rfl⟩
    | succ z =>
      have hi : i < n := by omega
      have i1 : (i : Int) < (n : Int) := by omega
      obtain ⟨b, off, x, rfl, hx, hat, hbl⟩ := HX.out.next (i := i) (by rw [HN.out]; exact hi)
      have HM := Lib.hid (okL_succ hx)
      clear hx HX HW
      cases hk : okL xs i with
      | false =>
        rw [hk] at HM
        clear hk
        go_wp2_with fail
        go_roundg z
        case measure => omega
        case rel => exact ⟨i + 1, by go_num, by rw [HM.out]; rfl, by omega, rfl⟩
      | true =>
        rw [hk] at HM
        clear hk
        unfold ww at HM
        cases h1 : decide (0 < x) with
        | false =>
          have HM : Hid (okL xs (i + 1) = false) := Lib.hid (by rw [HM.out, decide_eq_true (show x < 1 by have := of_decide_eq_false h1; omega)]; rfl)
          go_wp2_with fail
          go_roundg z
          case measure => omega
          case rel => exact ⟨i + 1, by go_num, by rw [HM.out], by omega, rfl⟩
        | true =>
          cases h2 : decide (x < 13) with
          | false =>
            have HM : Hid (okL xs (i + 1) = false) := Lib.hid (by rw [HM.out, decide_eq_true (show 12 < x by have := of_decide_eq_false h2; omega), Bool.or_true]; rfl)
            go_wp2_with fail
            go_roundg z
            case measure => omega
            case rel => exact ⟨i + 1, by go_num, by rw [HM.out], by omega, rfl⟩
          | true =>
            have HM : Hid (okL xs (i + 1) = true) := Lib.hid (by rw [HM.out, decide_eq_false (show ¬ 12 < x by have := of_decide_eq_true h2; omega), decide_eq_false (show ¬ x < 1 by have := of_decide_eq_true h1; omega)]; rfl)
            go_wp2_with fail
            go_roundg z
            case measure => omega
            case rel => exact ⟨i + 1, by go_num, by rw [HM.out], by omega, rfl⟩
end Go.Proofs.Ytobkepipmmkboaa
