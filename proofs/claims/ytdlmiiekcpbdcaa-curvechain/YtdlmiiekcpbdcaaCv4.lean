/- slices.ContainsFunc at wrong; wrongTrace. -/
import Derived.Test.YtdlmiiekcpbdcaaCv1
namespace Go.Proofs.Ytdlmiiekcpbdcaa
open Go.RowKit Go.Maps

def IndexIs (f : Int → Bool) (rs : List Int) (r : Int) : Prop := (r = -1 ∧ rs.any f = false) ∨ ∃ i : Nat, r = (i : Int) ∧ i < rs.length ∧ (rs.take i).any f = false ∧ ∃ x, rs[i]? = some x ∧ f x = true
theorem IndexIs.any {f : Int → Bool} {rs : List Int} {r : Int} (h : IndexIs f rs r) : decide (0 ≤ r) = rs.any f := by
  rcases h with ⟨rfl, h⟩ | ⟨i, rfl, _, _, x, hx, hf⟩
  · rw [h]; rfl
  · rw [List.any_eq_true.2 ⟨x, List.mem_of_getElem? hx, hf⟩]
    exact decide_eq_true (by omega)
set_option maxRecDepth 100000 in
set_option maxHeartbeats 4000000 in
theorem indexFunc_any {w : World} {xs : List Int} {A : Option Addr} (hP : IntsIn w A xs) (cap : Nat) :
    Calls Try.prog 27 #[.slice A xs.length cap, .func (.func 25) #[] #[]] w fun e w' => ∃ r : Int, e = .returned (.int .i64 r) ∧ IndexIs out20 xs r ∧ w = w' := by
  have hlen := hP.len
  obtain ⟨n, hn⟩ : ∃ n, xs.length = n := ⟨_, rfl⟩
  have HN := Lib.hid hn
  have HP := Lib.hid hP
  have HF := Lib.hid (fun n w => wrong_eq n w)
  rw [hn] at hlen ⊢
  clear hn hP
  go_enter Try.func27, Try.ntmps27
  go_wp2_with fail
  go_loopg [8] n (fun k c wr => ∃ i : Nat, c = .int .i64 (i : Int) ∧ i + k = n ∧ wr = w ∧ Hid ((xs.take i).any out20 = false))
  case atStart => exact ⟨0, rfl, by omega, rfl, Lib.hid rfl⟩
  case round =>
    obtain ⟨i, rfl, hik, rfl, HI⟩ := hrel
    cases gk with
    | zero =>
      obtain rfl : i = n := by omega
      have HE : Hid (xs.any out20 = false) := Lib.hid (by
        have := HI.out
        rwa [List.take_of_length_le (by have := HN.out; omega)] at this)
      clear HI HP HF HN
      go_wp2_with fail
      go_ret
      exact ⟨-1, rfl, .inl ⟨rfl, HE.out⟩, rfl⟩
    | succ k =>
      have hi : i < n := by omega
      have i1 : (i : Int) < (n : Int) := by omega
      obtain ⟨b, off, x, rfl, hx, hat, hbl⟩ := HP.out.next (i := i) (by have := HN.out; omega)
      have HA : Hid ((xs.take (i + 1)).any out20 = out20 x) := Lib.hid (by
        rw [take_snocI hx, List.any_append, HI.out]
        simp)
      have HY : Hid (out20 x = true → IndexIs out20 xs (i : Int)) := Lib.hid (fun h => .inr ⟨i, rfl, by have := HN.out; omega, HI.out, x, hx, h⟩)
      have HD := Lib.hid (HF.out x wr)
      clear hx hbl HI HP HF
      generalize out20 x = J at *
      go_wp2_with fail
      refine HD.out.mono ?_
      rintro e w2 ⟨rfl, rfl⟩
      clear HD
      cases J with
      | true =>
        have HZ := Lib.hid (HY.out rfl)
        go_wp2_with fail
        go_ret
        exact ⟨(i : Int), rfl, HZ.out, rfl⟩
      | false =>
        go_wp2_with fail
        go_roundg k
        case measure => omega
        case rel => exact ⟨i + 1, by go_num, by omega, rfl, HA⟩
set_option maxHeartbeats 1000000 in
theorem containsFunc_any {w : World} {xs : List Int} {A : Option Addr} (hP : IntsIn w A xs) (cap : Nat) :
    Calls Try.prog 26 #[.slice A xs.length cap, .func (.func 25) #[] #[]] w fun e w' => e = .returned (.bool (xs.any out20)) ∧ w = w' := by
  have H := Lib.hid (indexFunc_any hP cap)
  clear hP
  go_enter Try.func26, Try.ntmps26
  go_wp2_with fail
  refine H.out.mono ?_
  rintro e w1 ⟨r, rfl, hr, rfl⟩
  have HR := Lib.hid hr.any
  clear hr H
  go_wp2_with fail
  go_ret
  exact ⟨ret_bool HR.out, rfl⟩

set_option maxHeartbeats 1000000 in
theorem wrongTrace_any {w : World} {xs : List Int} {A : Option Addr} (hP : IntsIn w A xs) (cap : Nat) :
    Calls Try.prog 24 #[.slice A xs.length cap] w fun e w' => e = .returned (.bool (wtr xs)) ∧ w = w' := by
  have H := Lib.hid (containsFunc_any hP cap)
  unfold wtr
  clear hP
  generalize xs.any out20 = J at *
  generalize xs.length = n at *
  by_cases c : 400 < (n : Int)
  · go_enter Try.func24, Try.ntmps24
    go_wp2_with fail
    go_ret
    exact ⟨ret_bool (by simp; omega), rfl⟩
  · go_enter Try.func24, Try.ntmps24
    go_wp2_with fail
    refine H.out.mono ?_
    rintro e w1 ⟨rfl, rfl⟩
    go_wp2_with fail
    go_ret
    exact ⟨ret_bool (by simp; omega), rfl⟩
end Go.Proofs.Ytdlmiiekcpbdcaa
