/- HeadBack of package weirhousekeep: its walk. -/
import Derived.Test.YtmigfemkbdehbaaHd6
namespace Go.Proofs.Ytmigfemkbdehbaa
open Go.RowKit Go.Maps

set_option maxRecDepth 100000 in
set_option maxHeartbeats 2000000 in
theorem back_law {h : Hd} (hf : h.Fine) (w : World) :
    Calls Try.prog 4 #[.agg h.cells.toArray] w fun e w' => e = .returned (.bool true) ∧ Below w.heap.size w w' := by
  have hq := headAt_new w h
  have ha : Below w.heap.size w (w.alloc (.cells h.cells.toArray 24)) := (Below.refl _ _).alloc (Nat.le_refl _) _
  have H0 := Lib.hid (alive5_any (w.alloc (.cells h.cells.toArray 24)))
  have HX := Lib.hid (And.intro hq ha)
  clear hq ha
  go_enter Try.func4, Try.ntmps4
  go_wp2_with fail
  refine H0.out.mono ?_
  rintro e w1 ⟨rfl, hb⟩
  have hsz : (w.alloc (.cells h.cells.toArray 24)).heap.size = w.heap.size + 1 := by simp
  have hq1 := HX.out.1.below hb HX.out.1.lt
  have hb1 := HX.out.2.trans (hb.mono HX.out.2.size)
  have HQ := Lib.hid hq1
  have HB := Lib.hid hb1
  clear hb hsz hq1 hb1 H0 HX
  by_cases hw : h.wrong = 0
  · have hs := hf.sound hw
    have H1 := Lib.hid (write_good h w1 hs hw)
    have HS := Lib.hid hs
    obtain ⟨n, hn⟩ := Int.eq_ofNat_of_zero_le (show 0 ≤ h.ln by have := hs.ln.1; omega)
    have hnn : 20 ≤ n ∧ n < 65536 := by have := hs.ln; omega
    have hln : h.ln.toNat = n := by omega
    rw [hln] at H1
    have HN := Lib.hid (And.intro hn hln)
    clear hs hf hn hw hln
    go_wp2_with (refine wpList_load_head rfl (.tmp 1) rfl w.heap.size h rfl HQ.out ?_)
    refine H1.out.mono ?_
    rintro e w2 ⟨g, rfl, ho, hb2⟩
    have H2 := read_back HS.out (by rw [HN.out.2]; exact ho)
    rw [HN.out.2] at H2
    have H2' := Lib.hid H2
    have hq2 := HQ.out.below hb2 HQ.out.lt
    have HQ2 := Lib.hid hq2
    have HB2 := Lib.hid (HB.out.trans (hb2.mono HB.out.size))
    clear H2 hq2 hb2 ho H1 HB HQ
    go_wp2_with fail
    refine H2'.out.mono ?_
    rintro e w3 ⟨rfl, hb3⟩
    have hz : HeadAt (w3.alloc (.cells #[.int .u8 0, .int .u8 0, .int .u8 0, .int .u8 0, .int .u8 0, .int .u8 0, .int .u8 0, .int .u8 0, .int .i64 0, .int .i64 0, .int .i64 0, .int .i64 0, .int .i64 0] 24)) w3.heap.size Hd.none := headAt_new w3 Hd.none
    have hb4 : Below w3.heap.size w3 ((w3.alloc (.cells #[.int .u8 0, .int .u8 0, .int .u8 0, .int .u8 0, .int .u8 0, .int .u8 0, .int .u8 0, .int .u8 0, .int .i64 0, .int .i64 0, .int .i64 0, .int .i64 0, .int .i64 0] 24)).setRow w3.heap.size h.cells.toArray) := below_setRow ((Below.refl _ _).alloc (Nat.le_refl _) _) (Nat.le_refl _) _
    have hb5 := hb3.trans (hb4.mono hb3.size)
    have HZ := Lib.hid hz
    have HE := Lib.hid (And.intro (hz.stored h) (And.intro (HQ2.out.below hb5 HQ2.out.lt) (HB2.out.trans (hb5.mono HB2.out.size))))
    clear hz hb4 hb5 hb3 H2' HQ2 HB2
    go_upto_region 7 with (refine wpList_store_head rfl (.tmp 5) (.tmp 28) rfl w3.heap.size h Hd.none rfl rfl HZ.out ?_)
    generalize (w3.alloc (.cells #[.int .u8 0, .int .u8 0, .int .u8 0, .int .u8 0, .int .u8 0, .int .u8 0, .int .u8 0, .int .u8 0, .int .i64 0, .int .i64 0, .int .i64 0, .int .i64 0, .int .i64 0] 24)).setRow w3.heap.size h.cells.toArray = W at *
    have c11 : W.cell? ⟨w.heap.size, 11, none⟩ = some (.int .i64 (n : Int)) := by rw [← HN.out.1]; exact HE.out.2.1.cell 11
    have heq := fun w => eql_head w h
    clear HZ
    go_wp2_with (first
      | refine wpList_load_want (by rfl) (.tmp 5) rfl w3.heap.size h rfl HE.out.1 ?_
      | refine wpList_load_want (by rfl) (.tmp 1) rfl w.heap.size h rfl HE.out.2.1 ?_)
    go_ret
    exact ⟨rfl, HE.out.2.2⟩
  · have H1 := Lib.hid (write_bad h w1 hw)
    have H2 := Lib.hid (fun w => wrong_any h w)
    generalize h.wrong = R at *
    have hr' : (R != 0) = true := by simpa using hw
    clear hf hw
    go_wp2_with (refine wpList_load_head rfl (.tmp 1) rfl w.heap.size h rfl HQ.out ?_)
    refine H1.out.mono ?_
    rintro e w2 ⟨rfl, hb2⟩
    have HQ2 := Lib.hid (HQ.out.below hb2 HQ.out.lt)
    have HB2 := Lib.hid (HB.out.trans (hb2.mono HB.out.size))
    clear hb2 H1 HB HQ
    go_wp2_with (refine wpList_load_want (by rfl) (.tmp 1) rfl w.heap.size h rfl HQ2.out ?_)
    refine (H2.out _).mono ?_
    rintro e w3 ⟨rfl, hb3⟩
    have HB3 := Lib.hid (HB2.out.trans (hb3.mono HB2.out.size))
    clear hb3 HQ2 HB2 H2
    go_wp2
    go_ret
    exact ⟨rfl, HB3.out⟩
end Go.Proofs.Ytmigfemkbdehbaa
