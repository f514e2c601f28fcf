/- SumsCheck of package weirhousekeep: its walk. -/
import Derived.Test.YtalliljmkijeiaaSm4
namespace Go.Proofs.Ytalliljmkijeiaa
open Go.RowKit Go.Maps

theorem u8s_set (bs : List Int) (i : Nat) (y : Int) : u8s (bs.set i y) = (u8s bs).set i (.int .u8 y) := by simp [u8s]
theorem OwnB.stored {B : Nat} {w : World} {g cap : Nat} {bs : List Int} (h : OwnB B w (.slice (some ⟨g, 0, none⟩) bs.length cap) bs) (i : Nat) (y : Int) :
    OwnB B (w.setCell ⟨g, i, none⟩ (.int .u8 y)) (.slice (some ⟨g, 0, none⟩) bs.length cap) (bs.set i y) := by
  unfold OwnB
  rw [u8s_set, List.length_set]
  exact (World.ownsRow.stored h i _).1
theorem OwnB.at {B : Nat} {w : World} {v : Value} {bs : List Int} (h : OwnB B w v bs) {i : Nat} (hi : i < bs.length) :
    ∃ g cap, v = .slice (some ⟨g, 0, none⟩) bs.length cap ∧ B ≤ g ∧ w.cell? ⟨g, i, none⟩ = some (.int .u8 bs[i]) ∧ w.frozen? ⟨g, i, none⟩ = false := by
  rcases h.2 with ⟨_, h0⟩ | ⟨g, cap, cur, rfl, hB, hg, hn, _, hs, ht⟩
  · omega
  · refine ⟨g, cap, rfl, hB, ?_, World.ownsRow.frozenAt h i⟩
    rw [World.ownsRow.cellAt h i (by omega)]
    exact u8s_at (List.getElem?_eq_getElem hi)

theorem bits_xor8 {x t : Int} (hx : Byte x) (ht : Byte t) (h0 : t ≠ 0) : Byte (bits .xor .u8 x t) ∧ x ≠ bits .xor .u8 x t := by
  obtain ⟨x0, x1⟩ := hx
  obtain ⟨t0, t1⟩ := ht
  obtain ⟨x, rfl⟩ := Int.eq_ofNat_of_zero_le x0
  obtain ⟨t, rfl⟩ := Int.eq_ofNat_of_zero_le t0
  have e : bits .xor .u8 (x : Int) (t : Int) = ((x ^^^ t : Nat) : Int) := by
    show IntKind.u8.wrap ((BitVec.ofInt 8 (x : Int) ^^^ BitVec.ofInt 8 (t : Int)).toNat : Int) = _
    have hlt : x ^^^ t < 2 ^ 8 := Nat.xor_lt_two_pow (by omega) (by omega)
    rw [BitVec.toNat_xor, BitVec.ofInt_natCast, BitVec.ofInt_natCast, BitVec.toNat_ofNat, BitVec.toNat_ofNat, Nat.mod_eq_of_lt (by omega), Nat.mod_eq_of_lt (by omega), IntKind.wrap_u8]
    omega
  rw [e]
  have hlt : x ^^^ t < 2 ^ 8 := Nat.xor_lt_two_pow (by omega) (by omega)
  refine ⟨⟨by omega, by omega⟩, fun h => h0 ?_⟩
  have h : x = x ^^^ t := by omega
  have h2 : x ^^^ x = x ^^^ (x ^^^ t) := by rw [← h]
  rw [Nat.xor_self, ← Nat.xor_assoc, Nat.xor_self, Nat.zero_xor] at h2
  omega

theorem tot_two {bs : List Int} (he : bs.length % 2 = 0) (a b : Int) : tot 0 (bs ++ [a, b]) = tot 0 bs + (256 * a + b) := by
  rw [tot_append]
  simp only [tot, Nat.zero_add]
  rcases wt_two bs.length with ⟨e, _⟩ | ⟨_, h⟩
  · rcases wt_two (bs.length + 1) with ⟨_, h⟩ | ⟨e2, _⟩
    · omega
    · rw [e, e2]; omega
  · omega

theorem all_sums {bs : List Int} (hb : Bytes bs) (he : bs.length % 2 = 0) {c : Int} (hc : c = 65535 - fd (tot 0 bs)) : fd (tot 0 (bs ++ [c / 256, c % 256])) = 65535 := by
  rw [tot_two he, show 256 * (c / 256) + c % 256 = c by omega, hc]
  exact check_all (tot_bound hb 0).1
theorem turned_all {xs : List Int} (hb : Bytes xs) (hs : fd (tot 0 xs) = 65535) {i : Nat} (hi : i < xs.length) {t : Int} (ht : Byte t) (h0 : t ≠ 0) : Bytes (xs.set i (bits .xor .u8 xs[i] t)) ∧ fd (tot 0 (xs.set i (bits .xor .u8 xs[i] t))) ≠ 65535 := by
  have hx : xs[i]? = some xs[i] := List.getElem?_eq_getElem hi
  obtain ⟨h1, h2⟩ := bits_xor8 (hb.at hx) ht h0
  refine ⟨hb.set i h1, ?_⟩
  have hp := (tot_bound (hb.set i h1) 0).1
  rw [tot_set xs i 0 hx, Nat.zero_add] at hp ⊢
  exact turned_seen hs (tot_bound hb 0).1 (by rcases wt_two i with ⟨e, _⟩ | ⟨e, _⟩ <;> simp [e]) (hb.at hx) h1 h2 hp

set_option maxRecDepth 100000 in
set_option maxHeartbeats 2000000 in
theorem check_law {w : World} {A : Option Addr} {cap n : Nat} {bs : List Int} (h : CameB w A cap bs) (hn : bs.length = n) {at_ t : Int} (ha : -9223372036854775808 ≤ at_ ∧ at_ ≤ 9223372036854775807) (ht : Byte t) :
    Calls Try.prog 5 #[.slice A n cap, .int .i64 at_, .int .u8 t] w fun e w' => e = .returned (.bool true) ∧ Below w.heap.size w w' := by
  have H0 := Lib.hid (alive4_any w)
  have hsz := h.size
  rw [hn] at hsz
  go_enter Try.func5, Try.ntmps5
  go_wp2_with fail
  refine H0.out.mono ?_
  rintro e w1 ⟨rfl, hb1⟩
  have hC1 := h.below hb1
  have HB1 := Lib.hid hb1
  clear hb1 H0 h
  by_cases hodd : n % 2 = 0
  · have hm : (n : Int) % 2 = 0 := by omega
    have H1 := check_any hC1.lies cap
    have H2 := clone_bytes hC1
    have hf := fd_half (tot_all hC1.lies)
    obtain ⟨c, hc⟩ : ∃ c, c = 65535 - fd (tot 0 bs) := ⟨_, rfl⟩
    have hch : Half c := by obtain ⟨_, _⟩ := hf; exact ⟨by omega, by omega⟩
    have HS := Lib.hid (all_sums hC1.lies.bytes (by omega) hc)
    have HY := Lib.hid hC1.lies.bytes
    rw [hn] at H1 H2
    rw [← hc] at H1
    have H1' := Lib.hid H1
    have H2' := Lib.hid H2
    obtain ⟨c0, c1⟩ := hch
    clear H1 H2 hC1 hf hc
    go_wp2_with fail
    refine H1'.out.mono ?_
    rintro e w2 ⟨rfl, rfl⟩
    go_wp2_with fail
    refine H2'.out.mono ?_
    rintro e w2 ⟨v, rfl, k1, k2⟩
    have hb2 := HB1.out.trans (k2.mono HB1.out.size)
    have hlit := lies_lit w2 [c / 256, c % 256] (by
      intro x hx
      simp only [List.mem_cons, List.not_mem_nil, or_false] at hx
      unfold Byte
      omega) (by simp)
    have hba : Below w2.heap.size w2 (w2.alloc (.cells (u8s [c / 256, c % 256]).toArray 5)) := (Below.refl _ _).alloc (Nat.le_refl _) _
    obtain ⟨v', W, hr, q1, q2⟩ := bytes_append (k1.below hba) hlit 2 (Nat.le_trans k2.size hba.size) (by simp; omega)
    have hb3 : Below w.heap.size w W := hb2.trans (((hba.mono k2.size).trans q2).mono HB1.out.size)
    have hlen : (bs ++ [c / 256, c % 256]).length = n + 2 := by simp [hn]
    have hBA : Bytes (bs ++ [c / 256, c % 256]) := HY.out.append hlit.bytes
    have HSA := HS.out
    generalize bs ++ [c / 256, c % 256] = all at *
    have hbase := HB1.out.size
    clear HS HY k1 k2 q2 hlit hba hb2 H1' H2'
    obtain ⟨A', cap', rfl, hL⟩ := q1.form hBA (by omega)
    have H4 := of_any hL cap'
    rw [hlen, HSA] at H4
    rw [hlen] at hr
    have H4' := Lib.hid H4
    have HB3 := Lib.hid hb3
    have HQ := Lib.hid (And.intro q1 (And.intro hBA HSA))
    have HLen := Lib.hid hlen
    clear H4 hb3 q1 hL hBA HSA hlen
    go_wp2_with (at_builtin; refine wpList_append_eq rfl (.tmp 18) (.tmp 24) 22 22 rfl rfl rfl (hr _) ?_)
    refine H4'.out.mono ?_
    rintro e w3 ⟨rfl, rfl⟩
    clear H4'
    by_cases a0 : at_ < 0
    · go_wp2_with fail
      go_ret
      exact ⟨rfl, HB3.out⟩
    by_cases a1 : (n : Int) + 2 ≤ at_
    · go_wp2_with fail
      go_ret
      exact ⟨rfl, HB3.out⟩
    by_cases t0 : t = 0
    · subst t0
      go_wp2_with fail
      go_ret
      exact ⟨rfl, HB3.out⟩
    obtain ⟨i, rfl⟩ := Int.eq_ofNat_of_zero_le (show 0 ≤ at_ by omega)
    have hi : i < all.length := by rw [HLen.out]; omega
    obtain ⟨g, cap2, e, hg, hcell, hfz⟩ := HQ.out.1.at hi
    rw [HLen.out] at e
    injection e with e1 e2 e3
    subst e1 e3
    obtain ⟨y1, y2⟩ := turned_all HQ.out.2.1 HQ.out.2.2 hi ht t0
    have q3 := HQ.out.1.stored i (bits .xor .u8 all[i] t)
    have hl2 : (all.set i (bits .xor .u8 all[i] t)).length = n + 2 := by rw [List.length_set, HLen.out]
    obtain ⟨A3, cap3, e5, hL⟩ := (show OwnB w1.heap.size _ (.slice (some ⟨g, 0, none⟩) (all.set i (bits .xor .u8 all[i] t)).length cap') _ from by rw [List.length_set]; exact q3).form y1 (by rw [hl2]; omega)
    injection e5 with e6 _ e7
    subst e6 e7
    have H5 := of_any hL cap'
    rw [hl2] at H5
    have hb4 := HB3.out.setCell (p := ⟨g, i, none⟩) (by simp only; omega) (.int .u8 (bits .xor .u8 all[i] t))
    obtain ⟨r, hr2⟩ : ∃ r, fd (tot 0 (all.set i (bits .xor .u8 all[i] t))) = r := ⟨_, rfl⟩
    rw [hr2] at H5 y2
    generalize all[i] = x at *
    have H5' := Lib.hid H5
    have HB4 := Lib.hid hb4
    have t0' : (t == 0) = false := by simpa using t0
    have y2' : (r != 65535) = true := by simpa using y2
    have hin : (i : Int) < (n : Int) + 2 := by omega
    clear H5 hb4 hL q3 hl2 y1 hr2 HQ HLen HB3
    go_wp2_with fail
    refine H5'.out.mono ?_
    rintro e w3 ⟨rfl, rfl⟩
    go_wp2
    go_ret
    exact ⟨rfl, HB4.out⟩
  · have hm : (n : Int) % 2 = 1 := by omega
    clear hC1
    go_wp2_with fail
    go_ret
    exact ⟨rfl, HB1.out⟩
end Go.Proofs.Ytalliljmkijeiaa
