/- Package share: wrongAmount, wrongWeight; slices.ContainsFunc at each; total; Wrong. -/
import Derived.Test.YtlpchakoikmbnaaSh0
import Derived.Test.YtlpchakoikmbnaaIn1
namespace Go.Proofs.Ytlpchakoikmbnaa
open Go.RowKit Go.Maps

set_option maxHeartbeats 1000000 in
theorem wrongAmount_eq (n : Int) (w : World) : Calls Try.prog 22 #[.int .i64 n] w fun e w' => e = .returned (.bool (am n)) ∧ w = w' := by
  unfold am
  by_cases c : n < 0
  · go_enter Try.func22, Try.ntmps22
    go_wp2
    go_ret
    exact ⟨ret_bool (by simp [c]), rfl⟩
  · go_enter Try.func22, Try.ntmps22
    go_wp2
    go_ret
    exact ⟨ret_bool (by simp; omega), rfl⟩
set_option maxHeartbeats 1000000 in
theorem wrongWeight_eq (n : Int) (w : World) : Calls Try.prog 24 #[.int .i64 n] w fun e w' => e = .returned (.bool (wg n)) ∧ w = w' := by
  unfold wg
  by_cases c : n < 1
  · go_enter Try.func24, Try.ntmps24
    go_wp2
    go_ret
    exact ⟨ret_bool (by simp [c]), rfl⟩
  · go_enter Try.func24, Try.ntmps24
    go_wp2
    go_ret
    exact ⟨ret_bool (by simp; omega), rfl⟩
def IndexIs (f : Int → Bool) (rs : List Int) (r : Int) : Prop := (r = -1 ∧ rs.any f = false) ∨ ∃ i : Nat, r = (i : Int) ∧ i < rs.length ∧ (rs.take i).any f = false ∧ ∃ x, rs[i]? = some x ∧ f x = true
theorem IndexIs.any {f : Int → Bool} {rs : List Int} {r : Int} (h : IndexIs f rs r) : decide (0 ≤ r) = rs.any f := by
  rcases h with ⟨rfl, h⟩ | ⟨i, rfl, _, _, x, hx, hf⟩
  · rw [h]; rfl
  · rw [List.any_eq_true.2 ⟨x, List.mem_of_getElem? hx, hf⟩]
    exact decide_eq_true (by omega)
set_option maxRecDepth 100000 in
set_option maxHeartbeats 4000000 in
theorem index_am {w : World} {xs : List Int} {A : Option Addr} (hP : IntsIn w A xs) (cap : Nat) :
    Calls Try.prog 28 #[.slice A xs.length cap, .func (.func 22) #[] #[]] w fun e w' => ∃ r : Int, e = .returned (.int .i64 r) ∧ IndexIs am xs r ∧ w = w' := by
  have hlen := hP.len
  obtain ⟨n, hn⟩ : ∃ n, xs.length = n := ⟨_, rfl⟩
  have HN := Lib.hid hn
  have HP := Lib.hid hP
  have HF := Lib.hid (fun n w => wrongAmount_eq n w)
  rw [hn] at hlen ⊢
  clear hn hP
  go_enter Try.func28, Try.ntmps28
  go_wp2_with fail
  go_loopg [8] n (fun k c wr => ∃ i : Nat, c = .int .i64 (i : Int) ∧ i + k = n ∧ wr = w ∧ Hid ((xs.take i).any am = false))
  case atStart => exact ⟨0, rfl, by omega, rfl, Lib.hid rfl⟩
  case round =>
    obtain ⟨i, rfl, hik, rfl, HI⟩ := hrel
    cases gk with
    | zero =>
      obtain rfl : i = n := by omega
      have HE : Hid (xs.any am = false) := Lib.hid (by
        have := HI.out
        rwa [List.take_of_length_le (by have := HN.out; omega)] at this)
      clear HI HP HF HN
      go_wp2_with fail
      go_ret
      exact ⟨-1, rfl, .inl ⟨rfl, HE.out⟩, rfl⟩
    | succ k =>
      have hi : i < n := by omega
      have i1 : (i : Int) < (n : Int) := by omega
      obtain ⟨b, off, x, rfl, hx, hat, hbl⟩ := HP.out.next (i := i) (by have := HN.out; omega)
      have HA : Hid ((xs.take (i + 1)).any am = am x) := Lib.hid (by
        rw [take_snocI hx, List.any_append, HI.out]
        simp)
      have HY : Hid (am x = true → IndexIs am xs (i : Int)) := Lib.hid (fun h => .inr ⟨i, rfl, by have := HN.out; omega, HI.out, x, hx, h⟩)
      have HD := Lib.hid (HF.out x wr)
      clear hx hbl HI HP HF
      generalize am x = J at *
      go_wp2_with fail
      refine HD.out.mono ?_
      rintro e w2 ⟨rfl, rfl⟩
      clear HD
      cases J with
      | true =>
        have HZ := Lib.hid (HY.out rfl)
        go_wp2_with fail
        go_ret
        exact ⟨(i : Int), rfl, HZ.out, rfl⟩
      | false =>
        go_wp2_with fail
        go_roundg k
        case measure => omega
        case rel => exact ⟨i + 1, by go_num, by omega, rfl, HA⟩
set_option maxHeartbeats 1000000 in
theorem contains_am {w : World} {xs : List Int} {A : Option Addr} (hP : IntsIn w A xs) (cap : Nat) :
    Calls Try.prog 23 #[.slice A xs.length cap, .func (.func 22) #[] #[]] w fun e w' => e = .returned (.bool (xs.any am)) ∧ w = w' := by
  have H := Lib.hid (index_am hP cap)
  clear hP
  go_enter Try.func23, Try.ntmps23
  go_wp2_with fail
  refine H.out.mono ?_
  rintro e w1 ⟨r, rfl, hr, rfl⟩
  have HR := Lib.hid hr.any
  clear hr H
  go_wp2_with fail
  go_ret
  exact ⟨ret_bool HR.out, rfl⟩

set_option maxRecDepth 100000 in
set_option maxHeartbeats 4000000 in
theorem index_wg {w : World} {xs : List Int} {A : Option Addr} (hP : IntsIn w A xs) (cap : Nat) :
    Calls Try.prog 28 #[.slice A xs.length cap, .func (.func 24) #[] #[]] w fun e w' => ∃ r : Int, e = .returned (.int .i64 r) ∧ IndexIs wg xs r ∧ w = w' := by
  have hlen := hP.len
  obtain ⟨n, hn⟩ : ∃ n, xs.length = n := ⟨_, rfl⟩
  have HN := Lib.hid hn
  have HP := Lib.hid hP
  have HF := Lib.hid (fun n w => wrongWeight_eq n w)
  rw [hn] at hlen ⊢
  clear hn hP
  go_enter Try.func28, Try.ntmps28
  go_wp2_with fail
  go_loopg [8] n (fun k c wr => ∃ i : Nat, c = .int .i64 (i : Int) ∧ i + k = n ∧ wr = w ∧ Hid ((xs.take i).any wg = false))
  case atStart => exact ⟨0, rfl, by omega, rfl, Lib.hid rfl⟩
  case round =>
    obtain ⟨i, rfl, hik, rfl, HI⟩ := hrel
    cases gk with
    | zero =>
      obtain rfl : i = n := by omega
      have HE : Hid (xs.any wg = false) := Lib.hid (by
        have := HI.out
        rwa [List.take_of_length_le (by have := HN.out; omega)] at this)
      clear HI HP HF HN
      go_wp2_with fail
      go_ret
      exact ⟨-1, rfl, .inl ⟨rfl, HE.out⟩, rfl⟩
    | succ k =>
      have hi : i < n := by omega
      have i1 : (i : Int) < (n : Int) := by omega
      obtain ⟨b, off, x, rfl, hx, hat, hbl⟩ := HP.out.next (i := i) (by have := HN.out; omega)
      have HA : Hid ((xs.take (i + 1)).any wg = wg x) := Lib.hid (by
        rw [take_snocI hx, List.any_append, HI.out]
        simp)
      have HY : Hid (wg x = true → IndexIs wg xs (i : Int)) := Lib.hid (fun h => .inr ⟨i, rfl, by have := HN.out; omega, HI.out, x, hx, h⟩)
      have HD := Lib.hid (HF.out x wr)
      clear hx hbl HI HP HF
      generalize wg x = J at *
      go_wp2_with fail
      refine HD.out.mono ?_
      rintro e w2 ⟨rfl, rfl⟩
      clear HD
      cases J with
      | true =>
        have HZ := Lib.hid (HY.out rfl)
        go_wp2_with fail
        go_ret
        exact ⟨(i : Int), rfl, HZ.out, rfl⟩
      | false =>
        go_wp2_with fail
        go_roundg k
        case measure => omega
        case rel => exact ⟨i + 1, by go_num, by omega, rfl, HA⟩
set_option maxHeartbeats 1000000 in
theorem contains_wg {w : World} {xs : List Int} {A : Option Addr} (hP : IntsIn w A xs) (cap : Nat) :
    Calls Try.prog 23 #[.slice A xs.length cap, .func (.func 24) #[] #[]] w fun e w' => e = .returned (.bool (xs.any wg)) ∧ w = w' := by
  have H := Lib.hid (index_wg hP cap)
  clear hP
  go_enter Try.func23, Try.ntmps23
  go_wp2_with fail
  refine H.out.mono ?_
  rintro e w1 ⟨r, rfl, hr, rfl⟩
  have HR := Lib.hid hr.any
  clear hr H
  go_wp2_with fail
  go_ret
  exact ⟨ret_bool HR.out, rfl⟩


def tot (xs : List Int) : Int := xs.foldl (· + ·) 0
theorem tot_snoc (xs : List Int) (x : Int) : tot (xs ++ [x]) = tot xs + x := by simp [tot]
theorem tot_take_su (xs : List Int) : ∀ n, n ≤ xs.length → tot (xs.take n) = su (fn xs) n
  | 0, _ => rfl
  | n + 1, h => by
    rw [take_snocI (at_fn (xs := xs) (k := n) (by omega)), tot_snoc, tot_take_su xs n (by omega), su_succ]
theorem tot_su (xs : List Int) : tot xs = su (fn xs) xs.length := by
  have := tot_take_su xs xs.length (Nat.le_refl _)
  rwa [List.take_length] at this
theorem tot_bound {ys : List Int} (h : ∀ y ∈ ys, 1 ≤ y ∧ y ≤ 1000) (i : Nat) (hi : i ≤ ys.length) : 0 ≤ tot (ys.take i) ∧ tot (ys.take i) ≤ 1000 * (i : Int) := by
  rw [tot_take_su ys i hi]
  have hh : ∀ k, k < i → 1 ≤ fn ys k ∧ fn ys k ≤ 1000 := fun k hk => h _ (List.mem_of_getElem? (at_fn (by omega)))
  exact ⟨su_nonneg fun k hk => by have := hh k hk; omega, su_bound fun k hk => (hh k hk).2⟩
set_option maxRecDepth 100000 in
set_option maxHeartbeats 4000000 in
theorem total_any {w : World} {xs : List Int} {A : Option Addr} (hP : IntsIn w A xs) (cap : Nat) (hs : ∀ y ∈ xs, 1 ≤ y ∧ y ≤ 1000) (h16 : xs.length ≤ 16) :
    Calls Try.prog 19 #[.slice A xs.length cap] w fun e w' => e = .returned (.int .i64 (tot xs)) ∧ w = w' := by
  have hlen := hP.len
  have HT := Lib.hid (fun i => tot_bound hs i)
  obtain ⟨n, hn⟩ : ∃ n, xs.length = n := ⟨_, rfl⟩
  have HN := Lib.hid hn
  have HP := Lib.hid hP
  rw [hn] at hlen h16 ⊢
  clear hn hP hs
  go_enter Try.func19, Try.ntmps19
  go_wp2_with fail
  go_loopg [3, 8] n (fun k s c wr => ∃ i : Nat, c = .int .i64 (i : Int) ∧ i + k = n ∧ wr = w ∧ s = .int .i64 (tot (xs.take i)))
  case atStart => exact ⟨0, rfl, by omega, rfl, rfl⟩
  case round =>
    obtain ⟨i, rfl, hik, rfl, rfl⟩ := hrel
    cases gk with
    | zero =>
      obtain rfl : i = n := by omega
      have he : xs.take i = xs := List.take_of_length_le (by have := HN.out; omega)
      rw [he]
      clear he HP HN HT
      go_wp2_with fail
      go_ret
      exact ⟨rfl, rfl⟩
    | succ k =>
      have hi : i < n := by omega
      have i1 : (i : Int) < (n : Int) := by omega
      obtain ⟨b, off, x, rfl, hx, hat, hbl⟩ := HP.out.next (i := i) (by have := HN.out; omega)
      have ht : tot (xs.take (i + 1)) = tot (xs.take i) + x := by
        rw [take_snocI hx, tot_snoc]
      have hb := HT.out (i + 1) (by have := HN.out; omega)
      have hw : wrap64 (tot (xs.take i) + x) = tot (xs.take i) + x := by
        rw [← ht]
        exact IntWalk.wrap64_in _ (by constructor <;> omega)
      have HE : Hid (Value.int .i64 (tot (xs.take i) + x) = .int .i64 (tot (xs.take (i + 1)))) := Lib.hid (by rw [ht])
      clear hx hbl HP HT ht hb
      generalize tot (xs.take i) = T at *
      go_wp2_with fail
      go_roundg k
      case measure => omega
      case rel => exact ⟨i + 1, by go_num, by omega, rfl, by rw [hw]; exact HE.out⟩

set_option maxHeartbeats 2000000 in
theorem wrong_any {w : World} {xs ys : List Int} {A B : Option Addr} (hx : IntsIn w A xs) (hy : IntsIn w B ys) (cx cy : Nat) (all : Int) :
    Calls Try.prog 11 #[.int .i64 all, .slice A xs.length cx, .slice B ys.length cy] w fun e w' => e = .returned (.int .i64 (wrongL all xs ys)) ∧ w = w' := by
  have H0 := Lib.hid (fun W => wrongAmount_eq all W)
  have H1 := Lib.hid (contains_am hx cx)
  have H2 := Lib.hid (contains_wg hy cy)
  unfold wrongL
  clear hx hy
  generalize am all = J0 at *
  generalize xs.any am = J1 at *
  generalize ys.any wg = J2 at *
  generalize xs.length = n at *
  generalize ys.length = m at *
  by_cases c : n = m
  · subst c
    rw [if_neg (by simp)]
    cases J0 with
    | true =>
      go_enter Try.func11, Try.ntmps11
      go_wp2_with fail
      refine (H0.out _).mono ?_
      rintro e w1 ⟨rfl, rfl⟩
      go_wp2_with fail
      go_ret
      exact ⟨rfl, rfl⟩
    | false =>
      by_cases c2 : 16 < (n : Int)
      · have hd : decide (16 < (n : Int)) = true := decide_eq_true c2
        rw [hd]
        clear hd
        go_enter Try.func11, Try.ntmps11
        go_wp2_with fail
        refine (H0.out _).mono ?_
        rintro e w1 ⟨rfl, rfl⟩
        go_wp2_with fail
        go_ret
        exact ⟨rfl, rfl⟩
      · have hd : decide (16 < (n : Int)) = false := decide_eq_false c2
        rw [hd]
        clear hd
        cases J1 with
        | true =>
          go_enter Try.func11, Try.ntmps11
          go_wp2_with fail
          refine (H0.out _).mono ?_
          rintro e w1 ⟨rfl, rfl⟩
          go_wp2_with fail
          refine H1.out.mono ?_
          rintro e w1 ⟨rfl, rfl⟩
          go_wp2_with fail
          go_ret
          exact ⟨rfl, rfl⟩
        | false =>
          cases J2 with
          | true =>
            go_enter Try.func11, Try.ntmps11
            go_wp2_with fail
            refine (H0.out _).mono ?_
            rintro e w1 ⟨rfl, rfl⟩
            go_wp2_with fail
            refine H1.out.mono ?_
            rintro e w1 ⟨rfl, rfl⟩
            go_wp2_with fail
            refine H2.out.mono ?_
            rintro e w1 ⟨rfl, rfl⟩
            go_wp2_with fail
            go_ret
            exact ⟨rfl, rfl⟩
          | false =>
            go_enter Try.func11, Try.ntmps11
            go_wp2_with fail
            refine (H0.out _).mono ?_
            rintro e w1 ⟨rfl, rfl⟩
            go_wp2_with fail
            refine H1.out.mono ?_
            rintro e w1 ⟨rfl, rfl⟩
            go_wp2_with fail
            refine H2.out.mono ?_
            rintro e w1 ⟨rfl, rfl⟩
            go_wp2_with fail
            go_ret
            exact ⟨rfl, rfl⟩
  · have hb : ((n : Int) != (m : Int)) = true := by simp; omega
    rw [if_pos c]
    clear c
    go_enter Try.func11, Try.ntmps11
    go_wp2_with fail
    go_ret
    exact ⟨rfl, rfl⟩
end Go.Proofs.Ytlpchakoikmbnaa
