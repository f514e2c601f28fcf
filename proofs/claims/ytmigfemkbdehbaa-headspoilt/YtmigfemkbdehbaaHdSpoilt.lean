/- HeadSpoilt of package weirhousekeep: its walk. -/
import Derived.Test.YtmigfemkbdehbaaHd6
namespace Go.Proofs.Ytmigfemkbdehbaa
open Go.RowKit Go.Maps

set_option maxRecDepth 100000 in
set_option maxHeartbeats 2000000 in
theorem spoilt_law {h : Hd} (hf : h.Fine) {at_ t : Int} (ha : I64 at_) (ht : Byte t) (w : World) :
    Calls Try.prog 5 #[.agg h.cells.toArray, .int .i64 at_, .int .u8 t] w fun e w' => e = .returned (.bool true) ∧ Below w.heap.size w w' := by
  have hq := headAt_new w h
  have hb0 : Below w.heap.size w (w.alloc (.cells h.cells.toArray 24)) := (Below.refl _ _).alloc (Nat.le_refl _) _
  have H0 := Lib.hid (alive5_any (w.alloc (.cells h.cells.toArray 24)))
  have HX := Lib.hid (And.intro hq hb0)
  clear hq hb0
  go_enter Try.func5, Try.ntmps5
  go_wp2_with fail
  refine H0.out.mono ?_
  rintro e w1 ⟨rfl, hb⟩
  have hq1 := HX.out.1.below hb HX.out.1.lt
  have hb1 := HX.out.2.trans (hb.mono HX.out.2.size)
  have HQ := Lib.hid hq1
  have HB := Lib.hid hb1
  clear hb hq1 hb1 H0 HX
  by_cases hw : h.wrong = 0
  · have hs := hf.sound hw
    have H1 := Lib.hid (write_good h w1 hs hw)
    have HS := Lib.hid hs
    obtain ⟨n, hn⟩ := Int.eq_ofNat_of_zero_le (show 0 ≤ h.ln by have := hs.ln.1; omega)
    have hnn : 20 ≤ n ∧ n < 65536 := by have := hs.ln; omega
    have hln : h.ln.toNat = n := by omega
    rw [hln] at H1
    have HN := Lib.hid (And.intro hn hln)
    have HT := Lib.hid ht
    clear hs hf hn hw hln
    go_wp2_with (refine wpList_load_head rfl (.tmp 3) rfl w.heap.size h rfl HQ.out ?_)
    refine H1.out.mono ?_
    rintro e w2 ⟨g, rfl, ho, hb2⟩
    have HO := Lib.hid ho
    have hsz := HB.out.size
    have HB2 := Lib.hid (HB.out.trans (hb2.mono HB.out.size))
    clear hb2 ho H1 HB HQ ht
    by_cases a0 : at_ < 1
    · go_wp2_with fail
      go_ret
      exact ⟨rfl, HB2.out⟩
    by_cases a1 : 20 ≤ at_
    · go_wp2_with fail
      go_ret
      exact ⟨rfl, HB2.out⟩
    by_cases t0 : t = 0
    · subst t0
      go_wp2_with fail
      go_ret
      exact ⟨rfl, HB2.out⟩
    obtain ⟨i, rfl⟩ := Int.eq_ofNat_of_zero_le (show 0 ≤ at_ by omega)
    have hplen : h.packet.length = n := by rw [HS.out.length]; exact HN.out.2
    obtain ⟨x, cx, zx, hx⟩ := HO.out.cell (i := i) (by omega)
    obtain ⟨y1, y2⟩ := HS.out.spoilt (i := i) (by omega) (by omega) HT.out t0 hx
    have ho' := HO.out
    have hg : w1.heap.size ≤ g := (World.ownsRow.lt ho' g rfl).1
    rw [← hplen] at ho'
    have q3 := ho'.stored i (bits .xor .u8 x t)
    rw [hplen] at q3
    obtain ⟨hL, hlc, hl⟩ := q3.lies y1 (by rw [List.length_set]; omega)
    have H5 := read_any hL hlc
    rw [hl] at H5
    have hb4 := HB2.out.setCell (p := ⟨g, i, none⟩) (Nat.le_trans hsz hg) (.int .u8 (bits .xor .u8 x t))
    have HB4 := Lib.hid hb4
    generalize unread (h.packet.set i (bits .xor .u8 x t)) = R at *
    generalize readHd (h.packet.set i (bits .xor .u8 x t)) = X at *
    have H5' := Lib.hid H5
    have t0' : (t == 0) = false := by simpa using t0
    have y2' : (R != 0) = true := by simpa using y2
    have i1 : (i : Int) < (n : Int) := by omega
    have i2 : ¬ ((i : Int) < 1) := by omega
    have i3 : ¬ (20 ≤ (i : Int)) := by omega
    clear H5 hb4 hL q3 hl y1 hlc ho' hg HO HB2 hplen hx HT a0 a1 t0 y2 hsz
    go_wp2_with fail
    refine H5'.out.mono ?_
    rintro e w3 ⟨rfl, hb3⟩
    have hz : HeadAt (w3.alloc (.cells #[.int .u8 0, .int .u8 0, .int .u8 0, .int .u8 0, .int .u8 0, .int .u8 0, .int .u8 0, .int .u8 0, .int .i64 0, .int .i64 0, .int .i64 0, .int .i64 0, .int .i64 0] 24)) w3.heap.size Hd.none := headAt_new w3 Hd.none
    have hb5 : Below w3.heap.size w3 ((w3.alloc (.cells #[.int .u8 0, .int .u8 0, .int .u8 0, .int .u8 0, .int .u8 0, .int .u8 0, .int .u8 0, .int .u8 0, .int .i64 0, .int .i64 0, .int .i64 0, .int .i64 0, .int .i64 0] 24)).setRow w3.heap.size X.cells.toArray) := below_setRow ((Below.refl _ _).alloc (Nat.le_refl _) _) (Nat.le_refl _) _
    have hb6 := HB4.out.trans ((hb3.trans (hb5.mono hb3.size)).mono HB4.out.size)
    have HZ := Lib.hid hz
    have HB6 := Lib.hid hb6
    clear hb3 hz hb5 hb6 HB4 H5'
    go_wp2_with (refine wpList_store_head rfl (.tmp 9) (.tmp 42) rfl w3.heap.size X Hd.none rfl rfl HZ.out ?_)
    go_ret
    exact ⟨rfl, HB6.out⟩
  · have H1 := Lib.hid (write_bad h w1 hw)
    generalize h.wrong = R at *
    have hr' : (R != 0) = true := by simpa using hw
    clear hf hw
    go_wp2_with (refine wpList_load_head rfl (.tmp 3) rfl w.heap.size h rfl HQ.out ?_)
    refine H1.out.mono ?_
    rintro e w2 ⟨rfl, hb2⟩
    have HB2 := Lib.hid (HB.out.trans (hb2.mono HB.out.size))
    clear hb2 H1 HB HQ
    go_wp2_with fail
    go_ret
    exact ⟨rfl, HB2.out⟩
end Go.Proofs.Ytmigfemkbdehbaa
