/- HeadRead of package weirhousekeep: its walk. -/
import Derived.Test.YtmigfemkbdehbaaHd6
namespace Go.Proofs.Ytmigfemkbdehbaa
open Go.RowKit Go.Maps

set_option maxRecDepth 100000 in
set_option maxHeartbeats 2000000 in
theorem read_law {w : World} {A : Option Addr} {bs : List Int} (h : Lies w A bs) {cap : Nat} (hc : bs.length ≤ cap) :
    Calls Try.prog 7 #[.slice A bs.length cap] w fun e w' => e = .returned (.bool true) ∧ Below w.heap.size w w' := by
  have H0 := Lib.hid (alive5_any w)
  have HR := Lib.hid (fun W (hW : Below w.heap.size w W) => read_any (h.below hW) hc)
  have HY := Lib.hid h.bytes
  generalize bs.length = n at *
  clear h
  go_enter Try.func7, Try.ntmps7
  go_wp2_with fail
  refine H0.out.mono ?_
  rintro e w1 ⟨rfl, hb1⟩
  have HB1 := Lib.hid hb1
  clear hb1 H0
  go_wp2_with fail
  refine (HR.out _ HB1.out).mono ?_
  rintro e w2 ⟨rfl, hb2⟩
  have hb3 := HB1.out.trans (hb2.mono HB1.out.size)
  have hz : HeadAt (w2.alloc (.cells #[.int .u8 0, .int .u8 0, .int .u8 0, .int .u8 0, .int .u8 0, .int .u8 0, .int .u8 0, .int .u8 0, .int .i64 0, .int .i64 0, .int .i64 0, .int .i64 0, .int .i64 0] 24)) w2.heap.size Hd.none := headAt_new w2 Hd.none
  have hb4 := hb3.trans ((below_setRow ((Below.refl w2.heap.size w2).alloc (Nat.le_refl _) (.cells #[.int .u8 0, .int .u8 0, .int .u8 0, .int .u8 0, .int .u8 0, .int .u8 0, .int .u8 0, .int .u8 0, .int .i64 0, .int .i64 0, .int .i64 0, .int .i64 0, .int .i64 0] 24)) (Nat.le_refl _) (readHd bs).cells.toArray).mono hb3.size)
  have HZ := Lib.hid hz
  have HE := Lib.hid (And.intro (hz.stored (readHd bs)) hb4)
  clear hb2 hb3 hb4 hz HR HB1
  go_upto_region 4 with (refine wpList_store_head rfl (.tmp 3) (.tmp 14) rfl w2.heap.size (readHd bs) Hd.none rfl rfl HZ.out ?_)
  generalize (w2.alloc (.cells #[.int .u8 0, .int .u8 0, .int .u8 0, .int .u8 0, .int .u8 0, .int .u8 0, .int .u8 0, .int .u8 0, .int .i64 0, .int .i64 0, .int .i64 0, .int .i64 0, .int .i64 0] 24)).setRow w2.heap.size (readHd bs).cells.toArray = W at *
  clear HZ
  by_cases hr : unread bs = 0
  · rw [hr]
    have hh : readHd bs = heads bs := by unfold readHd; rw [if_pos hr]
    rw [hh] at HE ⊢
    have H1 := wrong_any (heads bs) W
    have hfine := heads_fine HY.out
    by_cases hw : (heads bs).wrong = 0
    · have hs := hfine.sound hw
      rw [hw] at H1
      have H1' := Lib.hid H1
      have H2 := Lib.hid (fun w => write_good (heads bs) w hs hw)
      have H3 := Lib.hid (fun (B g : Nat) (w : World) (ho : OwnB B w (.slice (some ⟨g, 0, none⟩) (heads bs).ln.toNat (heads bs).ln.toNat) (heads bs).packet) => read_back hs ho)
      clear H1 hs hfine hw hh hr HY
      generalize heads bs = h at *
      generalize h.packet = pk at *
      generalize h.ln.toNat = m at *
      go_wp2_with (refine wpList_load_head rfl (.tmp 3) rfl w2.heap.size h rfl HE.out.1 ?_)
      refine H1'.out.mono ?_
      rintro e w3 ⟨rfl, hb3⟩
      have HE3 := Lib.hid (And.intro (HE.out.1.below hb3 HE.out.1.lt) (HE.out.2.trans (hb3.mono HE.out.2.size)))
      clear hb3 HE H1'
      go_wp2_with (refine wpList_load_head rfl (.tmp 3) rfl w2.heap.size h rfl HE3.out.1 ?_)
      refine (H2.out _).mono ?_
      rintro e w4 ⟨g, rfl, ho, hb4⟩
      have HE4 := Lib.hid (And.intro (HE3.out.1.below hb4 HE3.out.1.lt) (HE3.out.2.trans (hb4.mono HE3.out.2.size)))
      have H5 := Lib.hid (H3.out _ _ _ ho)
      clear hb4 HE3 H2 H3 ho
      go_wp2_with fail
      refine H5.out.mono ?_
      rintro e w5 ⟨rfl, hb5⟩
      have hz : HeadAt (w5.alloc (.cells #[.int .u8 0, .int .u8 0, .int .u8 0, .int .u8 0, .int .u8 0, .int .u8 0, .int .u8 0, .int .u8 0, .int .i64 0, .int .i64 0, .int .i64 0, .int .i64 0, .int .i64 0] 24)) w5.heap.size Hd.none := headAt_new w5 Hd.none
      have hb6 := hb5.trans ((below_setRow ((Below.refl w5.heap.size w5).alloc (Nat.le_refl _) (.cells #[.int .u8 0, .int .u8 0, .int .u8 0, .int .u8 0, .int .u8 0, .int .u8 0, .int .u8 0, .int .u8 0, .int .i64 0, .int .i64 0, .int .i64 0, .int .i64 0, .int .i64 0] 24)) (Nat.le_refl _) h.cells.toArray).mono hb5.size)
      have HZ := Lib.hid hz
      have HE6 := Lib.hid (And.intro (hz.stored h) (And.intro (HE4.out.1.below hb6 HE4.out.1.lt) (HE4.out.2.trans (hb6.mono HE4.out.2.size))))
      have heq := fun w => eql_head w h
      clear hz hb6 hb5 H5 HE4
      go_upto_region 10 with (refine wpList_store_head rfl (.tmp 7) (.tmp 35) rfl w5.heap.size h Hd.none rfl rfl HZ.out ?_)
      generalize (w5.alloc (.cells #[.int .u8 0, .int .u8 0, .int .u8 0, .int .u8 0, .int .u8 0, .int .u8 0, .int .u8 0, .int .u8 0, .int .i64 0, .int .i64 0, .int .i64 0, .int .i64 0, .int .i64 0] 24)).setRow w5.heap.size h.cells.toArray = V at *
      clear HZ
      go_wp2_with (first
        | refine wpList_load_want (by rfl) (.tmp 7) rfl w5.heap.size h rfl HE6.out.1 ?_
        | refine wpList_load_want (by rfl) (.tmp 3) rfl w2.heap.size h rfl HE6.out.2.1 ?_)
      go_ret
      exact ⟨rfl, HE6.out.2.2⟩
    · have hlt := read_wrong HY.out hr hw
      have H1' := Lib.hid H1
      have c11 : ∀ W', Below W.heap.size W W' → W'.cell? ⟨w2.heap.size, 11, none⟩ = some (.int .i64 (wordAt bs 2)) := fun W' hb => (HE.out.1.below hb HE.out.1.lt).cell 11
      have HC := Lib.hid c11
      generalize (heads bs).wrong = R at *
      generalize wordAt bs 2 = L at *
      have hr' : (R != 0) = true := by simpa using hw
      clear H1 hfine hh hr HY hw c11
      generalize heads bs = h at *
      go_wp2_with (refine wpList_load_head rfl (.tmp 3) rfl w2.heap.size h rfl HE.out.1 ?_)
      refine H1'.out.mono ?_
      rintro e w3 ⟨rfl, hb3⟩
      have c11 := HC.out _ hb3
      have HB3 := Lib.hid (HE.out.2.trans (hb3.mono HE.out.2.size))
      clear hb3 HE H1' HC
      go_wp2_with fail
      go_ret
      exact ⟨rfl, HB3.out⟩
  · have hh : readHd bs = Hd.none := by unfold readHd; rw [if_neg hr]
    rw [hh] at HE ⊢
    have hr' : (unread bs != 0) = true := by simpa using hr
    generalize unread bs = R at *
    have heq : ∀ w, (binOp .eql 24 (.agg Hd.none.cells.toArray) (.agg #[.int .u8 0, .int .u8 0, .int .u8 0, .int .u8 0, .int .u8 0, .int .u8 0, .int .u8 0, .int .u8 0, .int .i64 0, .int .i64 0, .int .i64 0, .int .i64 0, .int .i64 0])).run Try.prog w = .ok (.bool true) w := fun w => eql_head w Hd.none
    clear hr hh HY
    go_wp2_with (refine wpList_load_head rfl (.tmp 3) rfl w2.heap.size Hd.none rfl HE.out.1 ?_)
    go_ret
    exact ⟨rfl, HE.out.2⟩
end Go.Proofs.Ytmigfemkbdehbaa
