/- The reference: HBytes. -/
import Derived.Test.YthjnjfolbhhpnaaRg2
namespace Go.Proofs.Ythjnjfolbhhpnaa
open Go.RowKit Go.Maps

def hb (xs : List Int) : Int := if xs.any bad = true then -1 else tot xs
theorem bad_low {x : Int} (h : x < 1) : bad x = true := by simp [bad, btw]; omega
theorem bad_high {x : Int} (h : 1500 < x) : bad x = true := by simp [bad, btw]; omega
theorem hb_bad {xs : List Int} {i : Nat} {x : Int} (hx : xs[i]? = some x) (hb' : bad x = true) : hb xs = -1 := by
  unfold hb
  rw [if_pos (List.any_eq_true.2 ⟨x, List.mem_of_getElem? hx, hb'⟩)]
theorem hb_good {xs : List Int} (h : xs.any bad = false) : hb xs = tot xs := by
  unfold hb
  rw [h]; rfl
theorem any_snoc {xs : List Int} {i : Nat} {x : Int} (hx : xs[i]? = some x) (hi : (xs.take i).any bad = false) (hb' : bad x = false) : (xs.take (i + 1)).any bad = false := by
  rw [take_snocI hx, List.any_append, hi]
  simpa using hb'
theorem tot_bound2 {xs : List Int} (h : xs.any bad = false) : 0 ≤ tot xs ∧ tot xs ≤ 1500 * (xs.length : Int) := by
  have := tot_pos h
  omega

set_option maxRecDepth 100000 in
set_option maxHeartbeats 4000000 in
theorem hBytes_any {w : World} {q : Qu} {A : Option Addr} (hP : IntsIn w A q.has) (cap : Nat) :
    Calls Try.prog 21 #[.agg (q.cells A cap)] w fun e w' => e = .returned (.int .i64 (hb q.has)) ∧ Below w.heap.size w w' := by
  have hlen := hP.len
  have HB := Lib.hid ((Below.refl w.heap.size w).alloc (Nat.le_refl _) (.cells #[.slice A q.has.length cap, .int .i64 q.most, .int .i64 q.mb, .int .i64 q.dr] 24))
  have HP := Lib.hid (hP.below HB.out)
  unfold Qu.cells
  obtain ⟨xs, most, mb, dr⟩ := q
  dsimp only at *
  obtain ⟨n, hn⟩ : ∃ n, xs.length = n := ⟨_, rfl⟩
  have HN := Lib.hid hn
  rw [hn] at hlen HB HP ⊢
  clear hn hP
  go_enter Try.func21, Try.ntmps21
  go_wp2_with fail
  generalize w.alloc (.cells #[.slice A n cap, .int .i64 most, .int .i64 mb, .int .i64 dr] 24) = m at *
  go_loopg [3, 9] n (fun k s c wr => ∃ i : Nat, c = .int .i64 (i : Int) ∧ i + k = n ∧ wr = m ∧ s = .int .i64 (tot (xs.take i)) ∧ Hid ((xs.take i).any bad = false))
  case atStart => exact ⟨0, rfl, by omega, rfl, rfl, Lib.hid rfl⟩
  case round =>
    obtain ⟨i, rfl, hik, rfl, rfl, HI⟩ := hrel
    cases gk with
    | zero =>
      obtain rfl : i = n := by omega
      have he : xs.take i = xs := List.take_of_length_le (by have := HN.out; omega)
      rw [he] at HI ⊢
      have HG := Lib.hid (hb_good HI.out)
      clear he HP HN HI
      go_wp2_with fail
      go_ret
      exact ⟨ret_i64 HG.out.symm, HB.out⟩
    | succ k =>
      have hi : i < n := by omega
      have i1 : (i : Int) < (n : Int) := by omega
      obtain ⟨b, off, x, rfl, hx, hat, hbl⟩ := HP.out.next (i := i) (by have := HN.out; omega)
      by_cases c1 : x < 1
      · have HG := Lib.hid (hb_bad hx (bad_low c1))
        clear hx hbl HP HI
        go_wp2_with fail
        go_ret
        exact ⟨ret_i64 HG.out.symm, HB.out⟩
      · by_cases c2 : 1500 < x
        · have HG := Lib.hid (hb_bad hx (bad_high c2))
          have c1' : decide (x < 1) = false := decide_eq_false c1
          clear hx hbl HP HI
          go_wp2_with fail
          go_ret
          exact ⟨ret_i64 HG.out.symm, HB.out⟩
        · have c1' : decide (x < 1) = false := decide_eq_false c1
          have hbx : bad x = false := bad_false.2 ⟨by omega, by omega⟩
          have hs := any_snoc hx HI.out hbx
          have HS := Lib.hid hs
          have ht : tot (xs.take (i + 1)) = tot (xs.take i) + x := by
            rw [take_snocI hx, tot_append]
            simp [tot]
          have hw : IntKind.i64.wrap (tot (xs.take i) + x) = tot (xs.take i) + x := by
            rw [← ht]
            have := tot_bound2 hs
            have hl : (xs.take (i + 1)).length ≤ xs.length := by rw [List.length_take]; omega
            have := HN.out
            simp [IntKind.wrap, IntKind.bits, IntKind.signed]
            omega
          have HE : Hid (Value.int .i64 (tot (xs.take i) + x) = .int .i64 (tot (xs.take (i + 1)))) := Lib.hid (by rw [ht])
          clear hx hbl HP HI ht hs
          generalize tot (xs.take i) = T at *
          go_wp2_with fail
          go_roundg k
          case measure => omega
          case rel => exact ⟨i + 1, by go_num, by omega, rfl, HE.out, HS⟩
end Go.Proofs.Ythjnjfolbhhpnaa
