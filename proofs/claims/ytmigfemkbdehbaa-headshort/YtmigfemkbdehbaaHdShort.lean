/- HeadShort of package weirhousekeep: its walk. -/
import Derived.Test.YtmigfemkbdehbaaHd7
namespace Go.Proofs.Ytmigfemkbdehbaa
open Go.RowKit Go.Maps

set_option maxRecDepth 100000 in
set_option maxHeartbeats 2000000 in
theorem short_law {h : Hd} (hf : h.Fine) {k : Int} (hk : I64 k) {w : World} {A : Option Addr} {cap m : Nat} {xs : List Int} (hC : CameB w A cap xs) (hm : xs.length = m) :
    Calls Try.prog 6 #[.agg h.cells.toArray, .int .i64 k, .slice A m cap] w fun e w' => e = .returned (.bool true) ∧ Below w.heap.size w w' := by
  have hq := headAt_new w h
  have hb0 : Below w.heap.size w (w.alloc (.cells h.cells.toArray 24)) := (Below.refl _ _).alloc (Nat.le_refl _) _
  have H0 := Lib.hid (alive5_any (w.alloc (.cells h.cells.toArray 24)))
  have HX := Lib.hid (And.intro hq hb0)
  have HC := Lib.hid (fun W (hW : Below w.heap.size w W) => hC.below hW)
  have hms := hC.size
  rw [hm] at hms
  obtain ⟨k0, k1⟩ := hk
  clear hq hb0 hC
  go_enter Try.func6, Try.ntmps6
  go_wp2_with fail
  refine H0.out.mono ?_
  rintro e w1 ⟨rfl, hb⟩
  have hq1 := HX.out.1.below hb HX.out.1.lt
  have hb1 := HX.out.2.trans (hb.mono HX.out.2.size)
  have HQ := Lib.hid hq1
  have HB := Lib.hid hb1
  clear hb hq1 hb1 H0 HX
  by_cases hw : h.wrong = 0
  · have hs := hf.sound hw
    have H1 := Lib.hid (write_good h w1 hs hw)
    have HS := Lib.hid hs
    obtain ⟨n, hn⟩ := Int.eq_ofNat_of_zero_le (show 0 ≤ h.ln by have := hs.ln.1; omega)
    have hnn : 20 ≤ n ∧ n < 65536 := by have := hs.ln; omega
    have hln : h.ln.toNat = n := by omega
    rw [hln] at H1
    have HN := Lib.hid (And.intro hn hln)
    clear hs hf hn hw hln
    go_wp2_with (refine wpList_load_head rfl (.tmp 3) rfl w.heap.size h rfl HQ.out ?_)
    refine H1.out.mono ?_
    rintro e w2 ⟨g, rfl, ho, hb2⟩
    have hq2 := HQ.out.below hb2 HQ.out.lt
    have hb3 := HB.out.trans (hb2.mono HB.out.size)
    have hplen : h.packet.length = n := by rw [HS.out.length]; exact HN.out.2
    obtain ⟨hL, hlc, hl⟩ := ho.lies HS.out.bytes (by omega)
    obtain ⟨A', cap', W, hr, hL2, hc2, hb4⟩ := append_fresh hL hplen (by omega) (by omega) (HC.out _ hb3)
    have hr2 := HS.out.read xs
    have H2 := read_any hL2 (by rw [List.length_append, hplen]; exact hc2)
    rw [List.length_append, hplen, hr2.1, hr2.2, hm] at H2
    rw [hm] at hr
    have H2' := Lib.hid H2
    have HL := Lib.hid (hL.below hb4)
    have HQ2 := Lib.hid (hq2.below hb4 hq2.lt)
    have HB4 := Lib.hid (hb3.trans (hb4.mono hb3.size))
    have HPL := Lib.hid hplen
    clear H2 hq2 hb2 ho H1 HB HQ hL hL2 hc2 hb4 hb3 hr2 hplen hlc hl HC
    go_wp2_with (at_builtin; refine wpList_append_eq rfl (.tmp 23) (.tmp 24) 25 25 rfl rfl rfl (hr _) ?_)
    refine H2'.out.mono ?_
    rintro e w3 ⟨rfl, hb3⟩
    clear hr
    have hz : HeadAt (w3.alloc (.cells #[.int .u8 0, .int .u8 0, .int .u8 0, .int .u8 0, .int .u8 0, .int .u8 0, .int .u8 0, .int .u8 0, .int .i64 0, .int .i64 0, .int .i64 0, .int .i64 0, .int .i64 0] 24)) w3.heap.size Hd.none := headAt_new w3 Hd.none
    have hb5 := hb3.trans ((below_setRow ((Below.refl w3.heap.size w3).alloc (Nat.le_refl _) (.cells #[.int .u8 0, .int .u8 0, .int .u8 0, .int .u8 0, .int .u8 0, .int .u8 0, .int .u8 0, .int .u8 0, .int .i64 0, .int .i64 0, .int .i64 0, .int .i64 0, .int .i64 0] 24)) (Nat.le_refl _) h.cells.toArray).mono hb3.size)
    have HZ := Lib.hid hz
    have HE := Lib.hid (And.intro (hz.stored h) (And.intro (HQ2.out.below hb5 HQ2.out.lt) (And.intro (HL.out.below hb5) (HB4.out.trans (hb5.mono HB4.out.size)))))
    clear hz hb5 hb3 H2' HQ2 HB4 HL
    go_upto_region 7 with (refine wpList_store_head rfl (.tmp 9) (.tmp 27) rfl w3.heap.size h Hd.none rfl rfl HZ.out ?_)
    generalize (w3.alloc (.cells #[.int .u8 0, .int .u8 0, .int .u8 0, .int .u8 0, .int .u8 0, .int .u8 0, .int .u8 0, .int .u8 0, .int .i64 0, .int .i64 0, .int .i64 0, .int .i64 0, .int .i64 0] 24)).setRow w3.heap.size h.cells.toArray = V at *
    have c11 : V.cell? ⟨w.heap.size, 11, none⟩ = some (.int .i64 (n : Int)) := by rw [← HN.out.1]; exact HE.out.2.1.cell 11
    have hne := fun w => neq_head w h
    clear HZ
    by_cases a0 : k < 0
    · go_wp2_with (first
        | refine wpList_load_want (by rfl) (.tmp 9) rfl w3.heap.size h rfl HE.out.1 ?_
        | refine wpList_load_want (by rfl) (.tmp 3) rfl w.heap.size h rfl HE.out.2.1 ?_)
      go_ret
      exact ⟨rfl, HE.out.2.2.2⟩
    by_cases a1 : (n : Int) ≤ k
    · go_wp2_with (first
        | refine wpList_load_want (by rfl) (.tmp 9) rfl w3.heap.size h rfl HE.out.1 ?_
        | refine wpList_load_want (by rfl) (.tmp 3) rfl w.heap.size h rfl HE.out.2.1 ?_)
      go_ret
      exact ⟨rfl, HE.out.2.2.2⟩
    obtain ⟨i, rfl⟩ := Int.eq_ofNat_of_zero_le (show 0 ≤ k by omega)
    have hi : i < n := by omega
    have H6 := read_any (HE.out.2.2.1.take i) (cap := n) (by rw [List.length_take]; omega)
    rw [List.length_take, HPL.out, Nat.min_eq_left (by omega), HS.out.short (by rw [HN.out.2]; exact hi)] at H6
    have H6' := Lib.hid H6
    generalize readHd (List.take i h.packet) = X at *
    have i1 : (i : Int) ≤ (n : Int) := by omega
    have i2 : ¬ ((n : Int) ≤ (i : Int)) := by omega
    clear H6 HS HPL
    go_wp2_with (first
      | refine wpList_load_want (by rfl) (.tmp 9) rfl w3.heap.size h rfl HE.out.1 ?_
      | refine wpList_load_want (by rfl) (.tmp 3) rfl w.heap.size h rfl HE.out.2.1 ?_)
    refine H6'.out.mono ?_
    rintro e w4 ⟨rfl, hb4⟩
    have hz : HeadAt (w4.alloc (.cells #[.int .u8 0, .int .u8 0, .int .u8 0, .int .u8 0, .int .u8 0, .int .u8 0, .int .u8 0, .int .u8 0, .int .i64 0, .int .i64 0, .int .i64 0, .int .i64 0, .int .i64 0] 24)) w4.heap.size Hd.none := headAt_new w4 Hd.none
    have hb5 := hb4.trans ((below_setRow ((Below.refl w4.heap.size w4).alloc (Nat.le_refl _) (.cells #[.int .u8 0, .int .u8 0, .int .u8 0, .int .u8 0, .int .u8 0, .int .u8 0, .int .u8 0, .int .u8 0, .int .i64 0, .int .i64 0, .int .i64 0, .int .i64 0, .int .i64 0] 24)) (Nat.le_refl _) X.cells.toArray).mono hb4.size)
    have HZ := Lib.hid hz
    have HB6 := Lib.hid (HE.out.2.2.2.trans (hb5.mono HE.out.2.2.2.size))
    clear hz hb5 hb4 H6' HE
    go_wp2_with (refine wpList_store_head rfl (.tmp 11) (.tmp 49) rfl w4.heap.size X Hd.none rfl rfl HZ.out ?_)
    go_ret
    exact ⟨rfl, HB6.out⟩
  · have H1 := Lib.hid (write_bad h w1 hw)
    generalize h.wrong = R at *
    have hr' : (R != 0) = true := by simpa using hw
    clear hf hw HC
    go_wp2_with (refine wpList_load_head rfl (.tmp 3) rfl w.heap.size h rfl HQ.out ?_)
    refine H1.out.mono ?_
    rintro e w2 ⟨rfl, hb2⟩
    have HB2 := Lib.hid (HB.out.trans (hb2.mono HB.out.size))
    clear hb2 H1 HB HQ
    go_wp2_with fail
    go_ret
    exact ⟨rfl, HB2.out⟩
end Go.Proofs.Ytmigfemkbdehbaa
