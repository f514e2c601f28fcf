/- A last rule that fits all leaves nobody out: the walk. -/
import Derived.Test.YtandfbepenjbhaaRu7
import Derived.Test.YtandfbepenjbhaaRu8
import Derived.Test.YtandfbepenjbhaaRuRow
namespace Go.Proofs.Ytandfbepenjbhaa
open Go.RowKit Go.Maps

set_option maxRecDepth 100000 in
set_option maxHeartbeats 4000000 in
theorem all_law {w : World} {A : Option Addr} {rs : List Ru} {h : Hd} {len cap : Nat} (hC : CameR w A cap rs) (hl : rs.length = len) (hh : h.Ok) (c : Int) :
    Calls Try.prog 8 #[.slice A len cap, .agg h.cells.toArray, .int .i64 c] w fun e w' => e = .returned (.bool true) ∧ Below w.heap.size w w' := by
  have H0 := Lib.hid (fun w => alive7_any w)
  have hb0 : Below w.heap.size w (w.alloc (.cells h.cells.toArray 25)) := (Below.refl _ _).alloc (Nat.le_refl _) _
  have hq : HdAt (w.alloc (.cells h.cells.toArray 25)) w.heap.size h := heap_alloc_new w _
  have HC := Lib.hid (hC.below hb0)
  have HQ := Lib.hid hq
  have HB0 := Lib.hid hb0
  have HL := Lib.hid hl
  have HH := Lib.hid hh
  have hsz := hC.size
  rw [hl] at hsz
  clear hC hb0 hq hl hh
  go_enter Try.func8, Try.ntmps8
  go_wp2_with fail
  generalize w.alloc (.cells h.cells.toArray 25) = m0 at *
  refine (H0.out _).mono ?_
  rintro e w1 ⟨rfl, hb1⟩
  have h1 := clone_rus (HC.out.lies.below hb1) HC.out.nil HC.out.size
  rw [HL.out] at h1
  have H1 := Lib.hid h1
  have HB1 := Lib.hid hb1
  clear h1 hb1 H0
  go_wp2_with fail
  refine H1.out.mono ?_
  rintro e w2 ⟨v, rfl, hown, hb2⟩
  have hb2' := HB1.out.trans (hb2.mono HB1.out.size)
  have hnew : RuAt (w2.alloc (.cells #[.int .u8 0, .int .u8 0, .int .u8 0, .int .u8 0, .int .u8 0, .int .u8 0, .int .u8 0, .int .u8 0, .int .i64 0, .int .i64 0, .int .i64 0, .int .i64 0, .int .i64 65535, .int .i64 c] 32)) w2.heap.size (rz c) := heap_alloc_new w2 _
  have hb3 : Below w2.heap.size w2 (w2.alloc (.cells #[.int .u8 0, .int .u8 0, .int .u8 0, .int .u8 0, .int .u8 0, .int .u8 0, .int .u8 0, .int .u8 0, .int .i64 0, .int .i64 0, .int .i64 0, .int .i64 0, .int .i64 65535, .int .i64 c] 32)) := (Below.refl _ _).alloc (Nat.le_refl _) _
  obtain ⟨g, cap', W, hr, ho, hbW⟩ := rus_append (hown.below hb3) (Nat.le_trans hb2.size hb3.size) HC.out.size hnew
  have hr2 := hr 22
  have hbW1 : Below m0.heap.size m0 W := hb2'.trans ((hb3.mono hb2'.size).trans (hbW.mono HB1.out.size))
  have hok : ∀ p ∈ rs ++ [rz c], p.Ok := fun p hp => by
    rcases List.mem_append.1 hp with hp | hp
    · exact HC.out.lies.ok p hp
    · obtain rfl : p = rz c := by simpa using hp
      exact rz_ok c
  obtain ⟨A', cap'', e2, hin, hc2⟩ := ho.form hok (by rw [List.length_append, List.length_singleton]; have := HL.out; omega)
  injection e2 with e3 e4 e5
  subst e3 e5
  have h3 := wrong_any hin cap' hc2
  have hlen : (rs ++ [rz c]).length = len + 1 := by rw [List.length_append, List.length_singleton, HL.out]
  rw [hlen] at h3 hc2
  rw [HL.out] at hr2
  have H3 := Lib.hid h3
  have HIN := Lib.hid (And.intro hin (And.intro hc2 hbW1))
  have HLN := Lib.hid hlen
  have hwr : wrongR (rs ++ [rz c]) = if wrongB (rs ++ [rz c]) = true then 2 else 0 := rfl
  have HAC := Lib.hid (fun h0 h1 hw => all_class HH.out (h := h) h0 h1 rs c hw)
  clear h3 hin hc2 hbW1 e4 hok ho hbW hr hb3 hnew hb2' hb2 hown H1 HB1 hlen
  generalize rs ++ [rz c] = M at *
  cases hb : wrongB M with
  | true =>
    rw [hb] at hwr
    rw [show wrongR M = 2 from hwr] at H3
    clear hwr hb HAC
    go_wp2_with (first | (at_builtin; refine wpList_append_eq rfl (.tmp 15) (.tmp 18) 22 22 rfl rfl rfl hr2 ?_))
    refine H3.out.mono ?_
    rintro e w4 ⟨rfl, hb4⟩
    have HB4 := Lib.hid (HB0.out.trans ((HIN.out.2.2.trans (hb4.mono HIN.out.2.2.size)).mono HB0.out.size))
    clear hb4
    go_wp2_with fail
    go_ret
    exact ⟨rfl, HB4.out⟩
  | false =>
    rw [hb] at hwr
    rw [show wrongR M = 0 from hwr] at H3
    have HWB := Lib.hid hb
    clear hwr hb
    go_wp2_with (first | (at_builtin; refine wpList_append_eq rfl (.tmp 15) (.tmp 18) 22 22 rfl rfl rfl hr2 ?_))
    refine H3.out.mono ?_
    rintro e w4 ⟨rfl, hb4⟩
    have HB4 := Lib.hid (HIN.out.2.2.trans (hb4.mono HIN.out.2.2.size))
    have HM4 := Lib.hid (HIN.out.1.below hb4)
    have HQ4 := Lib.hid (HQ.out.below HB4.out)
    have c10 : w4.cell? ⟨w.heap.size, 10, none⟩ = some (.int .i64 h.dp) := cell_of_row _ _ 10 _ _ _ HQ4.out
    have HE4 := Lib.hid (HB0.out.trans (HB4.out.mono HB0.out.size))
    clear hb4 H3
    by_cases d0 : h.dp < 0
    · clear HAC
      go_wp2_with fail
      go_ret
      exact ⟨rfl, HE4.out⟩
    by_cases d1 : 65535 < h.dp
    · clear HAC
      go_wp2_with fail
      go_ret
      exact ⟨rfl, HE4.out⟩
    have HF := Lib.hid (HAC.out (by omega) (by omega) HWB.out)
    have h5 := class_any HM4.out cap' (by rw [HLN.out]; exact HIN.out.2.1) h HH.out
    rw [HLN.out] at h5
    have H5 := Lib.hid h5
    clear h5 HAC HWB
    generalize class2 M h = X at *
    obtain ⟨X1, X2⟩ := X
    obtain ⟨f1, f2⟩ := HF.out
    have f1' : X2 = 0 := f1
    subst f1'
    have HF2 := Lib.hid f2
    clear f1 f2 HF
    dsimp only at H5
    go_wp2_with (refine wpList_load_hd rfl (.tmp 4) rfl w.heap.size h rfl HQ4 ?_)
    refine H5.out.mono ?_
    rintro e w5 ⟨rfl, hb5⟩
    have HB5 := Lib.hid (HB4.out.trans (hb5.mono HB4.out.size))
    have HQ5 := Lib.hid (HQ.out.below HB5.out)
    have h6 := class_any (HC.out.lies.below HB5.out) cap HC.out.room h HH.out
    rw [HL.out] at h6
    have H6 := Lib.hid h6
    clear h6 hb5 H5 HQ4 c10 HE4 HM4
    generalize class2 rs h = Y at *
    obtain ⟨Y1, Y2⟩ := Y
    dsimp only at H6
    go_wp2_with (refine wpList_load_hd rfl (.tmp 4) rfl w.heap.size h rfl HQ5 ?_)
    refine H6.out.mono ?_
    rintro e w6 ⟨rfl, hb6⟩
    have HB6 := Lib.hid (HB0.out.trans ((HB5.out.trans (hb6.mono HB5.out.size)).mono HB0.out.size))
    clear hb6 H6
    rcases HF2.out with ⟨g1, g2⟩ | ⟨g1, g2⟩
    · have g1' : Y2 = 0 := g1
      have g2' : X1 = Y1 := g2
      subst g1' g2'
      clear g1 g2 HF2
      go_wp2_with fail
      go_ret
      exact ⟨rfl, HB6.out⟩
    · have g1' : Y2 = 3 := g1
      have g2' : X1 = c := g2
      subst g1' g2'
      clear g1 g2 HF2
      go_wp2_with fail
      go_ret
      exact ⟨rfl, HB6.out⟩
end Go.Proofs.Ytandfbepenjbhaa
