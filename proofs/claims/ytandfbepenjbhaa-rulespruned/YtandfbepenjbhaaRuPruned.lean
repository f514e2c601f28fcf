/- Pruned rules tell the same of each packet, and pruned again they stay: the walk. -/
import Derived.Test.YtandfbepenjbhaaRu7
import Derived.Test.YtandfbepenjbhaaRuRow
namespace Go.Proofs.Ytandfbepenjbhaa
open Go.RowKit Go.Maps

set_option maxRecDepth 100000 in
set_option maxHeartbeats 4000000 in
theorem pruned_law {w : World} {A : Option Addr} {rs : List Ru} {h : Hd} {len cap : Nat} (hC : CameR w A cap rs) (hl : rs.length = len) (hh : h.Ok) :
    Calls Try.prog 6 #[.slice A len cap, .agg h.cells.toArray] w fun e w' => e = .returned (.bool true) ∧ Below w.heap.size w w' := by
  have H0 := Lib.hid (fun w => alive7_any w)
  have hb0 : Below w.heap.size w (w.alloc (.cells h.cells.toArray 25)) := (Below.refl _ _).alloc (Nat.le_refl _) _
  have hq : HdAt (w.alloc (.cells h.cells.toArray 25)) w.heap.size h := heap_alloc_new w _
  have HC := Lib.hid (hC.below hb0)
  have HQ := Lib.hid hq
  have HB0 := Lib.hid hb0
  have HL := Lib.hid hl
  have HH := Lib.hid hh
  have hlen := hC.lies.len
  rw [hl] at hlen
  clear hC hb0 hq hl hh
  go_enter Try.func6, Try.ntmps6
  go_wp2_with fail
  generalize w.alloc (.cells h.cells.toArray 25) = m0 at *
  refine (H0.out _).mono ?_
  rintro e w1 ⟨rfl, hb1⟩
  have h1 := prune_any (HC.out.lies.below hb1) cap HC.out.room
  rw [HL.out] at h1
  have H1 := Lib.hid h1
  have HB1 := Lib.hid hb1
  clear h1 hb1
  go_wp2_with fail
  refine H1.out.mono ?_
  rintro e w2 ⟨hb2, ⟨hw, rfl⟩ | ⟨hw, v, rfl, ho⟩⟩
  · have HB2 := Lib.hid (HB0.out.trans ((HB1.out.trans (hb2.mono HB1.out.size)).mono HB0.out.size))
    clear hb2 hw
    go_wp2_with fail
    go_ret
    exact ⟨rfl, HB2.out⟩
  · have hpl : (prune [] rs).length ≤ len := by
      have := prune_len rs []
      have := HL.out
      rw [List.length_nil] at *
      omega
    have hok := prune_sub rs [] Ru.Ok (fun r hr => by cases hr) HC.out.lies.ok
    have HW : Hid (wrongB (prune [] rs) = false ∧ prune [] (prune [] rs) = prune [] rs ∧ class2 (prune [] rs) h = class2 rs h) := Lib.hid ⟨prune_wrong hw, prune_again rs, prune_class hw h⟩
    obtain ⟨A', cap', rfl, hin, hcap⟩ := ho.form hok (by omega)
    have HB2 := Lib.hid (HB1.out.trans (hb2.mono HB1.out.size))
    generalize prune [] rs = M at *
    have h2 := prune_any hin cap' hcap
    obtain ⟨k, hk⟩ : ∃ k, M.length = k := ⟨_, rfl⟩
    have HK := Lib.hid hk
    rw [hk] at h2 hpl
    have H2 := Lib.hid h2
    have HI := Lib.hid hin
    have HCP := Lib.hid hcap
    have HOK := Lib.hid hok
    have hpl' : (k : Int) ≤ (len : Int) := by omega
    rw [hk]
    clear h2 hin hcap ho hw hb2 hk hok H1 H0
    go_wp2_with fail
    refine H2.out.mono ?_
    rintro e w3 ⟨hb3, ⟨hw, _⟩ | ⟨hw, v, rfl, ho⟩⟩
    · rw [HW.out.1] at hw; cases hw
    · rw [HW.out.2.1] at ho
      obtain ⟨A3, cap3, rfl, hin3, hcap3⟩ := ho.form HOK.out (by have := HK.out; omega)
      have HB3 := Lib.hid (HB2.out.trans (hb3.mono HB2.out.size))
      have HI3 := Lib.hid (HI.out.below hb3)
      have HJ3 := Lib.hid hin3
      have h4 := class_any (HC.out.lies.below HB3.out) cap HC.out.room h HH.out
      rw [HL.out] at h4
      have H4 := Lib.hid h4
      have HQ3 := Lib.hid (HQ.out.below HB3.out)
      rw [HK.out]
      clear h4 hin3 hcap3 ho hw hb3 H2
      go_wp2_with (refine wpList_load_hd rfl (.tmp 3) rfl w.heap.size h rfl HQ3 ?_)
      refine H4.out.mono ?_
      rintro e w4 ⟨rfl, hb4⟩
      have HB4 := Lib.hid (HB3.out.trans (hb4.mono HB3.out.size))
      have HI4 := Lib.hid (HI3.out.below hb4)
      have HJ4 := Lib.hid (HJ3.out.below hb4)
      have h5 := class_any HI4.out cap' HCP.out h HH.out
      rw [HW.out.2.2, HK.out] at h5
      have H5 := Lib.hid h5
      have HQ4 := Lib.hid (HQ.out.below HB4.out)
      clear h5 hb4 H4 HQ3 HI3 HJ3
      generalize (class2 rs h).1 = X1 at *
      generalize (class2 rs h).2 = X2 at *
      go_wp2_with (refine wpList_load_hd rfl (.tmp 3) rfl w.heap.size h rfl HQ4 ?_)
      refine H5.out.mono ?_
      rintro e w5 ⟨rfl, hb5⟩
      have HB5 := Lib.hid (HB4.out.trans (hb5.mono HB4.out.size))
      have h6 := equal_rus (HI4.out.below hb5) (HJ4.out.below hb5) cap' cap3
      rw [HK.out] at h6
      have H6 := Lib.hid h6
      clear h6 hb5 H5 HQ4 HI4 HJ4 HB4
      go_wp2_with fail
      refine H6.out.mono ?_
      rintro e w6 ⟨rfl, hb6⟩
      have HB6 := Lib.hid (HB0.out.trans ((HB5.out.trans (hb6.mono HB5.out.size)).mono HB0.out.size))
      clear hb6 H6
      go_wp2_with fail
      go_ret
      exact ⟨rfl, HB6.out⟩
end Go.Proofs.Ytandfbepenjbhaa
