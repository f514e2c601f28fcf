/- Contracts of package ring: between, wrongSize, total; slices.ContainsFunc. -/
import Derived.Test.YthjnjfolbhhpnaaRgMath
import Derived.Test.YthjnjfolbhhpnaaIn1
namespace Go.Proofs.Ythjnjfolbhhpnaa
open Go.RowKit Go.Maps

set_option maxHeartbeats 1000000 in
theorem between_eq (n l h : Int) (w : World) :
    Calls Try.prog 22 #[.int .i64 n, .int .i64 l, .int .i64 h] w fun e w' => e = .returned (.bool (btw n l h)) ∧ w = w' := by
  unfold btw
  by_cases c : l ≤ n
  · go_enter Try.func22, Try.ntmps22
    go_wp2
    go_ret
    exact ⟨ret_bool (by simp [c]), rfl⟩
  · go_enter Try.func22, Try.ntmps22
    go_wp2
    go_ret
    exact ⟨ret_bool (by simp; omega), rfl⟩
theorem between_any (n l h : Int) (w : World) :
    Calls Try.prog 22 #[.int .i64 n, .int .i64 l, .int .i64 h] w fun e w' => e = .returned (.bool (btw n l h)) ∧ Below w.heap.size w w' := by
  refine (between_eq n l h w).mono ?_
  rintro e w1 ⟨rfl, rfl⟩
  exact ⟨rfl, Below.refl _ _⟩
set_option maxHeartbeats 1000000 in
theorem wrongSize_eq (n : Int) (w : World) :
    Calls Try.prog 24 #[.int .i64 n] w fun e w' => e = .returned (.bool (bad n)) ∧ w = w' := by
  have H := Lib.hid (fun w => between_eq n 1 1500 w)
  unfold bad
  generalize btw n 1 1500 = J at *
  go_enter Try.func24, Try.ntmps24
  go_wp2_with fail
  refine (H.out _).mono ?_
  rintro e w1 ⟨rfl, rfl⟩
  go_wp2_with fail
  go_ret
  exact ⟨rfl, rfl⟩

def IndexIs (f : Int → Bool) (rs : List Int) (r : Int) : Prop := (r = -1 ∧ rs.any f = false) ∨ ∃ i : Nat, r = (i : Int) ∧ i < rs.length ∧ (rs.take i).any f = false ∧ ∃ x, rs[i]? = some x ∧ f x = true
theorem IndexIs.any {f : Int → Bool} {rs : List Int} {r : Int} (h : IndexIs f rs r) : decide (0 ≤ r) = rs.any f := by
  rcases h with ⟨rfl, h⟩ | ⟨i, rfl, _, _, x, hx, hf⟩
  · rw [h]; rfl
  · rw [List.any_eq_true.2 ⟨x, List.mem_of_getElem? hx, hf⟩]
    exact decide_eq_true (by omega)
set_option maxRecDepth 100000 in
set_option maxHeartbeats 4000000 in
theorem indexFunc_any {w : World} {xs : List Int} {A : Option Addr} (hP : IntsIn w A xs) (cap : Nat) :
    Calls Try.prog 28 #[.slice A xs.length cap, .func (.func 24) #[] #[]] w fun e w' => ∃ r : Int, e = .returned (.int .i64 r) ∧ IndexIs bad xs r ∧ w = w' := by
  have hlen := hP.len
  obtain ⟨n, hn⟩ : ∃ n, xs.length = n := ⟨_, rfl⟩
  have HN := Lib.hid hn
  have HP := Lib.hid hP
  have HF := Lib.hid (fun n w => wrongSize_eq n w)
  rw [hn] at hlen ⊢
  clear hn hP
  go_enter Try.func28, Try.ntmps28
  go_wp2_with fail
  go_loopg [8] n (fun k c wr => ∃ i : Nat, c = .int .i64 (i : Int) ∧ i + k = n ∧ wr = w ∧ Hid ((xs.take i).any bad = false))
  case atStart => exact ⟨0, rfl, by omega, rfl, Lib.hid rfl⟩
  case round =>
    obtain ⟨i, rfl, hik, rfl, HI⟩ := hrel
    cases gk with
    | zero =>
      obtain rfl : i = n := by omega
      have HE : Hid (xs.any bad = false) := Lib.hid (by
        have := HI.out
        rwa [List.take_of_length_le (by have := HN.out; omega)] at this)
      clear HI HP HF HN
      go_wp2_with fail
      go_ret
      exact ⟨-1, rfl, .inl ⟨rfl, HE.out⟩, rfl⟩
    | succ k =>
      have hi : i < n := by omega
      have i1 : (i : Int) < (n : Int) := by omega
      obtain ⟨b, off, x, rfl, hx, hat, hbl⟩ := HP.out.next (i := i) (by have := HN.out; omega)
      have HA : Hid ((xs.take (i + 1)).any bad = bad x) := Lib.hid (by
        rw [take_snocI hx, List.any_append, HI.out]
        simp)
      have HY : Hid (bad x = true → IndexIs bad xs (i : Int)) := Lib.hid (fun h => .inr ⟨i, rfl, by have := HN.out; omega, HI.out, x, hx, h⟩)
      have HD := Lib.hid (HF.out x wr)
      clear hx hbl HI HP HF
      generalize bad x = J at *
      go_wp2_with fail
      refine HD.out.mono ?_
      rintro e w2 ⟨rfl, rfl⟩
      clear HD
      cases J with
      | true =>
        have HZ := Lib.hid (HY.out rfl)
        go_wp2_with fail
        go_ret
        exact ⟨(i : Int), rfl, HZ.out, rfl⟩
      | false =>
        go_wp2_with fail
        go_roundg k
        case measure => omega
        case rel => exact ⟨i + 1, by go_num, by omega, rfl, HA⟩
set_option maxHeartbeats 1000000 in
theorem containsFunc_any {w : World} {xs : List Int} {A : Option Addr} (hP : IntsIn w A xs) (cap : Nat) :
    Calls Try.prog 23 #[.slice A xs.length cap, .func (.func 24) #[] #[]] w fun e w' => e = .returned (.bool (xs.any bad)) ∧ w = w' := by
  have H := Lib.hid (indexFunc_any hP cap)
  clear hP
  go_enter Try.func23, Try.ntmps23
  go_wp2_with fail
  refine H.out.mono ?_
  rintro e w1 ⟨r, rfl, hr, rfl⟩
  have HR := Lib.hid hr.any
  clear hr H
  go_wp2_with fail
  go_ret
  exact ⟨ret_bool HR.out, rfl⟩

theorem tot_take_bound {xs : List Int} (h : xs.any bad = false) (i : Nat) : 0 ≤ tot (xs.take i) ∧ tot (xs.take i) ≤ 1500 * (xs.length : Int) := by
  have hs : (xs.take i).any bad = false := by
    rw [List.any_eq_false] at h ⊢
    exact fun x hx => h x (List.mem_of_mem_take hx)
  have := tot_pos hs
  have hl : (xs.take i).length ≤ xs.length := by rw [List.length_take]; omega
  omega
set_option maxRecDepth 100000 in
set_option maxHeartbeats 4000000 in
theorem total_any {w : World} {xs : List Int} {A : Option Addr} (hP : IntsIn w A xs) (cap : Nat) (hs : xs.any bad = false) :
    Calls Try.prog 19 #[.slice A xs.length cap] w fun e w' => e = .returned (.int .i64 (tot xs)) ∧ w = w' := by
  have hlen := hP.len
  have HT := Lib.hid (fun i => tot_take_bound hs i)
  obtain ⟨n, hn⟩ : ∃ n, xs.length = n := ⟨_, rfl⟩
  have HN := Lib.hid hn
  have HP := Lib.hid hP
  rw [hn] at hlen ⊢
  clear hn hP hs
  go_enter Try.func19, Try.ntmps19
  go_wp2_with fail
  go_loopg [3, 8] n (fun k s c wr => ∃ i : Nat, c = .int .i64 (i : Int) ∧ i + k = n ∧ wr = w ∧ s = .int .i64 (tot (xs.take i)))
  case atStart => exact ⟨0, rfl, by omega, rfl, rfl⟩
  case round =>
    obtain ⟨i, rfl, hik, rfl, rfl⟩ := hrel
    cases gk with
    | zero =>
      obtain rfl : i = n := by omega
      have he : xs.take i = xs := List.take_of_length_le (by have := HN.out; omega)
      rw [he]
      clear he HP HN HT
      go_wp2_with fail
      go_ret
      exact ⟨rfl, rfl⟩
    | succ k =>
      have hi : i < n := by omega
      have i1 : (i : Int) < (n : Int) := by omega
      obtain ⟨b, off, x, rfl, hx, hat, hbl⟩ := HP.out.next (i := i) (by have := HN.out; omega)
      have ht : tot (xs.take (i + 1)) = tot (xs.take i) + x := by
        rw [take_snocI hx, tot_append]
        simp [tot]
      have hb := HT.out (i + 1)
      have hw : IntKind.i64.wrap (tot (xs.take i) + x) = tot (xs.take i) + x := by
        rw [← ht]
        have := HN.out
        simp [IntKind.wrap, IntKind.bits, IntKind.signed]
        omega
      have HE : Hid (Value.int .i64 (tot (xs.take i) + x) = .int .i64 (tot (xs.take (i + 1)))) := Lib.hid (by rw [ht])
      clear hx hbl HP HT ht hb
      generalize tot (xs.take i) = T at *
      go_wp2_with fail
      go_roundg k
      case measure => omega
      case rel => exact ⟨i + 1, by go_num, by omega, rfl, HE.out⟩
end Go.Proofs.Ythjnjfolbhhpnaa
