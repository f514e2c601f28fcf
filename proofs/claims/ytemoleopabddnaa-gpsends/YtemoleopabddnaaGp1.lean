/- Package gps: wrongBytes, wrongWeight; slices.ContainsFunc at each; Wrong. -/
import Derived.Test.YtemoleopabddnaaGp0
import Derived.Test.YtemoleopabddnaaIn1
namespace Go.Proofs.Ytemoleopabddnaa
open Go.RowKit Go.Maps

set_option maxHeartbeats 1000000 in
theorem wrongBytes_eq (n : Int) (w : World) : Calls Try.prog 24 #[.int .i64 n] w fun e w' => e = .returned (.bool (am n)) ∧ w = w' := by
  unfold am
  by_cases c : n < 0
  · go_enter Try.func24, Try.ntmps24
    go_wp2
    go_ret
    exact ⟨ret_bool (by simp [c]), rfl⟩
  · go_enter Try.func24, Try.ntmps24
    go_wp2
    go_ret
    exact ⟨ret_bool (by simp; omega), rfl⟩
set_option maxHeartbeats 1000000 in
theorem wrongWeight_eq (n : Int) (w : World) : Calls Try.prog 25 #[.int .i64 n] w fun e w' => e = .returned (.bool (wg n)) ∧ w = w' := by
  unfold wg
  by_cases c : n < 1
  · go_enter Try.func25, Try.ntmps25
    go_wp2
    go_ret
    exact ⟨ret_bool (by simp [c]), rfl⟩
  · go_enter Try.func25, Try.ntmps25
    go_wp2
    go_ret
    exact ⟨ret_bool (by simp; omega), rfl⟩
def IndexIs (f : Int → Bool) (rs : List Int) (r : Int) : Prop := (r = -1 ∧ rs.any f = false) ∨ ∃ i : Nat, r = (i : Int) ∧ i < rs.length ∧ (rs.take i).any f = false ∧ ∃ x, rs[i]? = some x ∧ f x = true
theorem IndexIs.any {f : Int → Bool} {rs : List Int} {r : Int} (h : IndexIs f rs r) : decide (0 ≤ r) = rs.any f := by
  rcases h with ⟨rfl, h⟩ | ⟨i, rfl, _, _, x, hx, hf⟩
  · rw [h]; rfl
  · rw [List.any_eq_true.2 ⟨x, List.mem_of_getElem? hx, hf⟩]
    exact decide_eq_true (by omega)
set_option maxRecDepth 100000 in
set_option maxHeartbeats 4000000 in
theorem index_am {w : World} {xs : List Int} {A : Option Addr} (hP : IntsIn w A xs) (cap : Nat) :
    Calls Try.prog 37 #[.slice A xs.length cap, .func (.func 24) #[] #[]] w fun e w' => ∃ r : Int, e = .returned (.int .i64 r) ∧ IndexIs am xs r ∧ w = w' := by
  have hlen := hP.len
  obtain ⟨n, hn⟩ : ∃ n, xs.length = n := ⟨_, rfl⟩
  have HN := Lib.hid hn
  have HP := Lib.hid hP
  have HF := Lib.hid (fun n w => wrongBytes_eq n w)
  rw [hn] at hlen ⊢
  clear hn hP
  go_enter Try.func37, Try.ntmps37
  go_wp2_with fail
  go_loopg [8] n (fun k c wr => ∃ i : Nat, c = .int .i64 (i : Int) ∧ i + k = n ∧ wr = w ∧ Hid ((xs.take i).any am = false))
  case atStart => exact ⟨0, rfl, by omega, rfl, Lib.hid rfl⟩
  case round =>
    obtain ⟨i, rfl, hik, rfl, HI⟩ := hrel
    cases gk with
    | zero =>
      obtain rfl : i = n := by omega
      have HE : Hid (xs.any am = false) := Lib.hid (by
        have := HI.out
        rwa [List.take_of_length_le (by have := HN.out; omega)] at this)
      clear HI HP HF HN
      go_wp2_with fail
      go_ret
      exact ⟨-1, rfl, .inl ⟨rfl, HE.out⟩, rfl⟩
    | succ k =>
      have hi : i < n := by omega
      have i1 : (i : Int) < (n : Int) := by omega
      obtain ⟨b, off, x, rfl, hx, hat, hbl⟩ := HP.out.next (i := i) (by have := HN.out; omega)
      have HA : Hid ((xs.take (i + 1)).any am = am x) := Lib.hid (by
        rw [take_snocI hx, List.any_append, HI.out]
        simp)
      have HY : Hid (am x = true → IndexIs am xs (i : Int)) := Lib.hid (fun h => .inr ⟨i, rfl, by have := HN.out; omega, HI.out, x, hx, h⟩)
      have HD := Lib.hid (HF.out x wr)
      clear hx hbl HI HP HF
      generalize am x = J at *
      go_wp2_with fail
      refine HD.out.mono ?_
      rintro e w2 ⟨rfl, rfl⟩
      clear HD
      cases J with
      | true =>
        have HZ := Lib.hid (HY.out rfl)
        go_wp2_with fail
        go_ret
        exact ⟨(i : Int), rfl, HZ.out, rfl⟩
      | false =>
        go_wp2_with fail
        go_roundg k
        case measure => omega
        case rel => exact ⟨i + 1, by go_num, by omega, rfl, HA⟩
set_option maxHeartbeats 1000000 in
theorem contains_am {w : World} {xs : List Int} {A : Option Addr} (hP : IntsIn w A xs) (cap : Nat) :
    Calls Try.prog 23 #[.slice A xs.length cap, .func (.func 24) #[] #[]] w fun e w' => e = .returned (.bool (xs.any am)) ∧ w = w' := by
  have H := Lib.hid (index_am hP cap)
  clear hP
  go_enter Try.func23, Try.ntmps23
  go_wp2_with fail
  refine H.out.mono ?_
  rintro e w1 ⟨r, rfl, hr, rfl⟩
  have HR := Lib.hid hr.any
  clear hr H
  go_wp2_with fail
  go_ret
  exact ⟨ret_bool HR.out, rfl⟩

set_option maxRecDepth 100000 in
set_option maxHeartbeats 4000000 in
theorem index_wg {w : World} {xs : List Int} {A : Option Addr} (hP : IntsIn w A xs) (cap : Nat) :
    Calls Try.prog 37 #[.slice A xs.length cap, .func (.func 25) #[] #[]] w fun e w' => ∃ r : Int, e = .returned (.int .i64 r) ∧ IndexIs wg xs r ∧ w = w' := by
  have hlen := hP.len
  obtain ⟨n, hn⟩ : ∃ n, xs.length = n := ⟨_, rfl⟩
  have HN := Lib.hid hn
  have HP := Lib.hid hP
  have HF := Lib.hid (fun n w => wrongWeight_eq n w)
  rw [hn] at hlen ⊢
  clear hn hP
  go_enter Try.func37, Try.ntmps37
  go_wp2_with fail
  go_loopg [8] n (fun k c wr => ∃ i : Nat, c = .int .i64 (i : Int) ∧ i + k = n ∧ wr = w ∧ Hid ((xs.take i).any wg = false))
  case atStart => exact ⟨0, rfl, by omega, rfl, Lib.hid rfl⟩
  case round =>
    obtain ⟨i, rfl, hik, rfl, HI⟩ := hrel
    cases gk with
    | zero =>
      obtain rfl : i = n := by omega
      have HE : Hid (xs.any wg = false) := Lib.hid (by
        have := HI.out
        rwa [List.take_of_length_le (by have := HN.out; omega)] at this)
      clear HI HP HF HN
      go_wp2_with fail
      go_ret
      exact ⟨-1, rfl, .inl ⟨rfl, HE.out⟩, rfl⟩
    | succ k =>
      have hi : i < n := by omega
      have i1 : (i : Int) < (n : Int) := by omega
      obtain ⟨b, off, x, rfl, hx, hat, hbl⟩ := HP.out.next (i := i) (by have := HN.out; omega)
      have HA : Hid ((xs.take (i + 1)).any wg = wg x) := Lib.hid (by
        rw [take_snocI hx, List.any_append, HI.out]
        simp)
      have HY : Hid (wg x = true → IndexIs wg xs (i : Int)) := Lib.hid (fun h => .inr ⟨i, rfl, by have := HN.out; omega, HI.out, x, hx, h⟩)
      have HD := Lib.hid (HF.out x wr)
      clear hx hbl HI HP HF
      generalize wg x = J at *
      go_wp2_with fail
      refine HD.out.mono ?_
      rintro e w2 ⟨rfl, rfl⟩
      clear HD
      cases J with
      | true =>
        have HZ := Lib.hid (HY.out rfl)
        go_wp2_with fail
        go_ret
        exact ⟨(i : Int), rfl, HZ.out, rfl⟩
      | false =>
        go_wp2_with fail
        go_roundg k
        case measure => omega
        case rel => exact ⟨i + 1, by go_num, by omega, rfl, HA⟩
set_option maxHeartbeats 1000000 in
theorem contains_wg {w : World} {xs : List Int} {A : Option Addr} (hP : IntsIn w A xs) (cap : Nat) :
    Calls Try.prog 23 #[.slice A xs.length cap, .func (.func 25) #[] #[]] w fun e w' => e = .returned (.bool (xs.any wg)) ∧ w = w' := by
  have H := Lib.hid (index_wg hP cap)
  clear hP
  go_enter Try.func23, Try.ntmps23
  go_wp2_with fail
  refine H.out.mono ?_
  rintro e w1 ⟨r, rfl, hr, rfl⟩
  have HR := Lib.hid hr.any
  clear hr H
  go_wp2_with fail
  go_ret
  exact ⟨ret_bool HR.out, rfl⟩


set_option maxHeartbeats 2000000 in
theorem wrong_any {w : World} {xs ys : List Int} {A B : Option Addr} (hx : IntsIn w A xs) (hy : IntsIn w B ys) (cx cy : Nat) :
    Calls Try.prog 13 #[.slice A xs.length cx, .slice B ys.length cy] w fun e w' => e = .returned (.int .i64 (wrongL xs ys)) ∧ w = w' := by
  have H1 := Lib.hid (contains_am hx cx)
  have H2 := Lib.hid (contains_wg hy cy)
  unfold wrongL
  clear hx hy
  generalize xs.any am = J1 at *
  generalize ys.any wg = J2 at *
  generalize xs.length = n at *
  generalize ys.length = m at *
  by_cases c : n = m
  · subst c
    rw [if_neg (by simp)]
    by_cases c2 : 16 < (n : Int)
    · have hd : decide (16 < (n : Int)) = true := decide_eq_true c2
      rw [hd]
      clear hd
      go_enter Try.func13, Try.ntmps13
      go_wp2_with fail
      go_ret
      exact ⟨rfl, rfl⟩
    · have hd : decide (16 < (n : Int)) = false := decide_eq_false c2
      rw [hd]
      clear hd
      cases J1 with
      | true =>
        go_enter Try.func13, Try.ntmps13
        go_wp2_with fail
        refine H1.out.mono ?_
        rintro e w1 ⟨rfl, rfl⟩
        go_wp2_with fail
        go_ret
        exact ⟨rfl, rfl⟩
      | false =>
        cases J2 with
        | true =>
          go_enter Try.func13, Try.ntmps13
          go_wp2_with fail
          refine H1.out.mono ?_
          rintro e w1 ⟨rfl, rfl⟩
          go_wp2_with fail
          refine H2.out.mono ?_
          rintro e w1 ⟨rfl, rfl⟩
          go_wp2_with fail
          go_ret
          exact ⟨rfl, rfl⟩
        | false =>
          go_enter Try.func13, Try.ntmps13
          go_wp2_with fail
          refine H1.out.mono ?_
          rintro e w1 ⟨rfl, rfl⟩
          go_wp2_with fail
          refine H2.out.mono ?_
          rintro e w1 ⟨rfl, rfl⟩
          go_wp2_with fail
          go_ret
          exact ⟨rfl, rfl⟩
  · have hb : ((n : Int) != (m : Int)) = true := by simp; omega
    rw [if_pos c]
    clear c
    go_enter Try.func13, Try.ntmps13
    go_wp2_with fail
    go_ret
    exact ⟨rfl, rfl⟩
end Go.Proofs.Ytemoleopabddnaa
