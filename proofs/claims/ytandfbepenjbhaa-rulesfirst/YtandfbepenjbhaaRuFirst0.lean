/- slices.IndexFunc at the test of RulesFirst. -/
import Derived.Test.YtandfbepenjbhaaRu3
namespace Go.Proofs.Ytandfbepenjbhaa
open Go.RowKit Go.Maps

set_option maxRecDepth 100000 in
set_option maxHeartbeats 4000000 in
theorem indexFunc_first {w : World} {bq : Nat} {f : Ru → Bool} {rs : List Ru} (hf : Tests w 20 #[.pointer (some ⟨bq, 0, none⟩)] f rs) {A : Option Addr} (hP : RusIn w A rs) (cap : Nat) (hroom : rs.length ≤ cap) :
    Calls Try.prog 19 #[.slice A rs.length cap, .func (.func 20) #[] #[.pointer (some ⟨bq, 0, none⟩)]] w fun e w' => ∃ r : Int, e = .returned (.int .i64 r) ∧ IndexIs f rs r ∧ Below w.heap.size w w' := by
  have hlen := hP.len
  obtain ⟨n, hn⟩ : ∃ n, rs.length = n := ⟨_, rfl⟩
  have HN := Lib.hid hn
  have HP := Lib.hid hP
  have HF := Lib.hid hf
  rw [hn] at hlen hroom ⊢
  clear hn hP hf
  go_enter Try.func19, Try.ntmps19
  go_wp2_with fail
  go_loopg [8] n (fun k c wr => ∃ i : Nat, c = .int .i64 (i : Int) ∧ i + k = n ∧ Hid (Below w.heap.size w wr ∧ (rs.take i).any f = false))
  case atStart => exact ⟨0, rfl, by omega, Lib.hid ⟨Below.refl _ _, rfl⟩⟩
  case round =>
    obtain ⟨i, rfl, hik, HI⟩ := hrel
    cases gk with
    | zero =>
      obtain rfl : i = n := by omega
      have HE : Hid (rs.any f = false) := Lib.hid (by
        have := HI.out.2
        rwa [List.take_of_length_le (by have := HN.out; omega)] at this)
      have HB := Lib.hid HI.out.1
      clear HI HP HF HN
      go_wp2_with fail
      go_ret
      exact ⟨-1, rfl, .inl ⟨rfl, HE.out⟩, HB.out⟩
    | succ k =>
      have hi : i < n := by omega
      have i1 : (i : Int) < (n : Int) := by omega
      obtain ⟨b, off, r, rfl, hr, hat, hok, hbl⟩ := (HP.out.below HI.out.1).next (i := i) (by have := HN.out; omega)
      have HL := Lib.hid hat
      have hD : Calls Try.prog 20 #[.agg r.cells.toArray, .pointer (some ⟨bq, 0, none⟩)] wr _ := HF.out.out wr r HI.out.1 (List.mem_of_getElem? hr)
      have HD := Lib.hid hD
      have HA : Hid ((rs.take (i + 1)).any f = f r) := Lib.hid (by
        rw [take_snocR hr, List.any_append, HI.out.2]
        simp)
      have HY : Hid (f r = true → IndexIs f rs (i : Int)) := Lib.hid (fun h => .inr ⟨i, rfl, by have := HN.out; omega, HI.out.2, r, hr, h⟩)
      have HB := Lib.hid HI.out.1
      clear hr hok hbl HI HP HF hat hD
      generalize f r = J at *
      go_wp2_with (refine wpList_load_in rfl (.tmp 14) rfl b (off + i * 14) r rfl HL ?_)
      refine HD.out.mono ?_
      rintro e w2 ⟨rfl, hb2⟩
      have HB2 := Lib.hid (HB.out.trans (hb2.mono HB.out.size))
      clear hb2 HD HB HL
      cases J with
      | true =>
        have HZ := Lib.hid (HY.out rfl)
        go_wp2_with fail
        go_ret
        exact ⟨(i : Int), rfl, HZ.out, HB2.out⟩
      | false =>
        go_wp2_with fail
        go_roundg k
        case measure => omega
        case rel => exact ⟨i + 1, by go_num, by omega, Lib.hid ⟨HB2.out, HA.out⟩⟩
end Go.Proofs.Ytandfbepenjbhaa
