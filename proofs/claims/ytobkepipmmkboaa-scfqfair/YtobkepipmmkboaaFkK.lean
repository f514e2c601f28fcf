/- flowsKept: of each flow packets go in the order in which they came, and those that wait are the last ones. -/
import Derived.Test.YtobkepipmmkboaaRw0
import Derived.Test.YtobkepipmmkboaaScOM
import Derived.Test.YtobkepipmmkboaaTh1
import Derived.Test.YtobkepipmmkboaaSn1
namespace Go.Proofs.Ytobkepipmmkboaa
open Go.RowKit Go.Maps

def laidP (w : World) (x y z : Int) : World := w.alloc (.cells #[.int .i64 x, .int .i64 y, .int .i64 z] 40)
theorem laidP_at (w : World) (x y z : Int) : (laidP w x y z).cell? ⟨w.heap.size, 0, none⟩ = some (.int .i64 x) ∧ (laidP w x y z).cell? ⟨w.heap.size, 1, none⟩ = some (.int .i64 y) ∧ (laidP w x y z).cell? ⟨w.heap.size, 2, none⟩ = some (.int .i64 z) ∧ Below w.heap.size w (laidP w x y z) ∧ w.heap.size < (laidP w x y z).heap.size :=
  ⟨cell_of_row _ _ 0 _ _ _ (heap_alloc_new w _), cell_of_row _ _ 1 _ _ _ (heap_alloc_new w _), cell_of_row _ _ 2 _ _ _ (heap_alloc_new w _), (Below.refl _ _).alloc (Nat.le_refl _) _, by simp [laidP]⟩
theorem laidS_at (w : World) (a : Nat) (b : Int) : (laidS w a b).cell? ⟨w.heap.size, 0, none⟩ = some (.int .i64 (a : Int)) ∧ (laidS w a b).cell? ⟨w.heap.size, 1, none⟩ = some (.int .i64 b) ∧ Below w.heap.size w (laidS w a b) ∧ w.heap.size < (laidS w a b).heap.size :=
  ⟨cell_of_row _ _ 0 _ _ _ (heap_alloc_new w _), cell_of_row _ _ 1 _ _ _ (heap_alloc_new w _), (Below.refl _ _).alloc (Nat.le_refl _) _, by simp [laidS]⟩
set_option maxRecDepth 100000 in
set_option maxHeartbeats 16000000 in
theorem flowsKept_any {w : World} {n : Nat} {Q E S L : Option Addr} {os : List (Int × Int × Int)} {es : List Int} {ss : List (Nat × Int)} {q' : Nat → List Int} {ls : List Int} (hT : Tr n (fun _ => []) os es ss q') (hq : ThreeIn w Q os) (he : IntsIn w E es) (hs : SentIn w S ss) (hl : IntsIn w L ls) (hll : ls.length = n) (hls : ∀ k, k < n → ls[k]? = some ((q' k).length : Int)) (h16 : n ≤ 16) (hm : os.length ≤ 400) (cq ce cs cl : Nat) :
    Calls Try.prog 15 #[.int .i64 (n : Int), .slice Q os.length cq, .slice E es.length ce, .slice S ss.length cs, .slice L ls.length cl] w fun e w' => e = .returned (.bool true) ∧ Below w.heap.size w w' := by
  obtain ⟨m, hm1⟩ : ∃ m, os.length = m := ⟨_, rfl⟩
  obtain ⟨sl, hs1⟩ : ∃ sl, ss.length = sl := ⟨_, rfl⟩
  have hm2 : es.length = m := by rw [hT.length, hm1]
  have HL := Lib.hid (And.intro hm1 (And.intro hm2 hs1))
  have hs4 : sl ≤ 400 := by rw [← hs1]; exact Nat.le_trans hT.sent_le hm
  have hm4 : m ≤ 400 := by rw [← hm1]; exact hm
  have HT := Lib.hid hT
  have HQ := Lib.hid (fun W (hW : Below w.heap.size w W) => And.intro (hq.below hW) (And.intro (he.below hW) (And.intro (hs.below hW) (hl.below hW))))
  have HLS := Lib.hid (And.intro hll hls)
  have HMK := Lib.hid (fun w => make_lists n h16 w)
  rw [hm1, hm2, hs1, hll]
  clear hT hq he hs hl hll hls hm hm1 hm2 hs1
  have hmk := HMK.out
  have em : ((m : Int) != (m : Int)) = false := by simp
  have en : ((n : Int) != (n : Int)) = false := by simp
  go_enter Try.func15, Try.ntmps15
  go_upto_region 4 with fail
  have H3 : Hid (RowsG w (laidL w n) w.heap.size n (cameAt os es 0)) := Lib.hid (rows_start w n (Below.refl _ _))
  clear hmk HMK em en
  generalize laidL w n = w3 at *
  obtain ⟨gb, hgb⟩ : ∃ gb, w.heap.size = gb := ⟨_, rfl⟩
  rw [hgb] at H3 ⊢
  clear hgb
  go_wp2_with fail
  go_loopg [33] m (fun z c wi => ∃ i : Nat, c = .int .i64 (i : Int) ∧ i + z = m ∧ Hid (RowsG w wi gb n (cameAt os es i)))
  case atStart => exact ⟨0, rfl, by omega, H3⟩
  case round =>
    clear H3
    obtain ⟨i, rfl, hik, HI⟩ := hrel
    cases gk with
    | succ z =>
      have hi : i < m := by omega
      have i1 : (i : Int) < (m : Int) := by omega
      obtain ⟨k1, k2, -, -⟩ := HQ.out _ HI.out.below
      obtain ⟨b0, o0, x, y, b, rfl, hx, ⟨d0, d1, d2⟩, -⟩ := k1.next (i := i) (by rw [HL.out.1]; exact hi)
      obtain ⟨b1, o1, e, rfl, hxe, d3, l3⟩ := k2.next (i := i) (by rw [HL.out.2.1]; exact hi)
      clear k1 k2
      obtain ⟨T0, T1, T2, TB, TL⟩ := laidP_at wr x y b
      have d3' := (TB.cell (p := ⟨b1, o1 + i, none⟩) l3).trans d3
      by_cases he : e = 0
      · subst he
        by_cases hk : x = 1
        · subst hk
          obtain ⟨g, hg, rfl⟩ := HT.out.inside i y b hx hxe
          have g0 : decide ((g : Int) < 0) = false := decide_eq_false (by omega)
          have g1 : decide ((n : Int) ≤ (g : Int)) = false := decide_eq_false (by omega)
          have g2 : (g : Int) < (n : Int) := by omega
          have HX : Hid (∀ j, putQ (cameAt os es i) g (cameAt os es i g ++ [b]) j = cameAt os es (i + 1) j) := Lib.hid (fun j => (cameAt_push (by rw [HL.out.1, HL.out.2.1]) hx hxe j).symm)
          have hll : (cameAt os es i g).length ≤ 400 := Nat.le_trans (cameAt_le os es i g) (by rw [HL.out.1]; exact hm4)
          obtain ⟨Af, cf, H0⟩ := HI.out
          have hgx : ¬ Ab (Af g) wr.heap.size := fun hg' => by have := ((H0.own g hg).1.ab _ hg').2; omega
          have hgne : wr.heap.size ≠ gb := fun e => by have := H0.row.lt; omega
          have H4 := Lib.hid (H0.later TB)
          have HIK := Lib.hid hik
          clear hx hxe HI hik H0 TB
          go_upto_region 10 with fail
          change Code.wp _ _ _ _ (laidP wr 1 (g : Int) b)
          clear d0 d1 d2 d3 d3'
          generalize laidP wr 1 (g : Int) b = m0 at *
          generalize wr.heap.size = gx at *
          have bm : Below m0.drew.heap.size m0.drew (m0.drew.alloc (.cells #[.int .i64 b] 3)) := (Below.refl _ _).alloc (Nat.le_refl _) _
          have hy : IntsIn (m0.drew.alloc (.cells #[.int .i64 b] 3)) (some ⟨m0.heap.size, 0, none⟩) [b] := ⟨fun _ => ⟨m0.heap.size, 0, rfl, (by show m0.heap.size < (m0.drew.alloc _).heap.size; simp), fun j x hx => by
            cases j with
            | zero =>
              simp only [List.getElem?_cons_zero, Option.some.injEq] at hx
              subst hx
              exact cell_of_row _ _ 0 _ _ _ (heap_alloc_new m0.drew _)
            | succ j => simp at hx⟩, by simp⟩
          obtain ⟨A2, c2, W, hcell, hlt, hold, hrun, s0, s1, hG⟩ := (H4.out.later (Below.refl m0.heap.size m0).drew).push bm hg hy 1 (by simp only [List.length_cons, List.length_nil]; omega)
          have hcell : m0.cell? ⟨gb, g, none⟩ = some (.slice (Af g) (cameAt os es i g).length (cf g)) := hcell
          have T3 : W.cell? ⟨gx, 1, none⟩ = some (.int .i64 (g : Int)) := (World.cell?_of_block (hold gx TL hgx)).trans T1
          have T4 : W.cell? ⟨gx, 2, none⟩ = some (.int .i64 b) := (World.cell?_of_block (hold gx TL hgx)).trans T2
          have hlt : gb < m0.heap.size := hlt
          simp only [List.length_cons, List.length_nil, Nat.zero_add] at hrun hG
          have HRUN := Lib.hid hrun
          have HG := Lib.hid (hG.congr fun j _ => HX.out j)
          clear hy hrun hG H4 HX hll hold hgx
          generalize Af g = A1 at *
          generalize cf g = c1 at *
          generalize (cameAt os es i g).length = lk at *
          go_region_law (refine step_append_g rfl (.tmp 64) (.tmp 67) 22 rfl (by rfl) (by rfl) (HRUN.out _) ?_)
          all_goals
            clear hcell hlt HRUN s0 s1 T0 T1 T2 T3 T4 TL g0 g1 g2
            generalize W.setCell ⟨gb, g, none⟩ (.slice A2 (lk + 1) c2) = w5 at *
            go_wp2_with fail
            go_roundg z
            case measure => omega
            case rel => exact ⟨i + 1, by go_num, by have := HIK.out; omega, HG⟩
        · have hk1 : (x == 1) = false := by simpa using hk
          have hk2 : decide (x = 1) = false := decide_eq_false hk
          have HM : Hid (RowsG w (laidP wr x y b) gb n (cameAt os es (i + 1))) := Lib.hid ((HI.out.later TB).congr fun j _ => (cameAt_stay (by rw [HL.out.1, HL.out.2.1]) hx hxe (fun h => hk h.2) j).symm)
          have HIK := Lib.hid hik
          clear hx hxe HI hik TB
          go_upto_region 11 with fail
          change Code.wp _ _ _ _ (laidP wr x y b)
          generalize laidP wr x y b = m0 at *
          go_wp2_with fail
          go_roundg z
          case measure => omega
          case rel => exact ⟨i + 1, by go_num, by have := HIK.out; omega, HM⟩
      · have hk1 : (e == 0) = false := by simpa using he
        have hk2 : decide (e = 0) = false := decide_eq_false he
        have HM : Hid (RowsG w (laidP wr x y b) gb n (cameAt os es (i + 1))) := Lib.hid ((HI.out.later TB).congr fun j _ => (cameAt_stay (by rw [HL.out.1, HL.out.2.1]) hx hxe (fun h => he h.1) j).symm)
        have HIK := Lib.hid hik
        clear hx hxe HI hik TB
        go_upto_region 11 with fail
        change Code.wp _ _ _ _ (laidP wr x y b)
        generalize laidP wr x y b = m0 at *
        go_wp2_with fail
        go_roundg z
        case measure => omega
        case rel => exact ⟨i + 1, by go_num, by have := HIK.out; omega, HM⟩
    | zero =>
      obtain rfl : i = m := by omega
      have HJ : Hid (RowsG w wr gb n (restAt ss q' 0)) := Lib.hid (HI.out.congr fun j _ => by
        have := HT.out.rest j
        rwa [HL.out.1] at this)
      clear HI
      go_wp2_with fail
      go_loopg [73] sl (fun z c wi => ∃ j : Nat, c = .int .i64 (j : Int) ∧ j + z = sl ∧ Hid (RowsG w wi gb n (restAt ss q' j)))
      case atStart => exact ⟨0, rfl, by omega, HJ⟩
      case round =>
        clear HJ
        obtain ⟨k, rfl, hkz, HI⟩ := hrel
        cases gk with
        | succ z =>
          have hk : k < sl := by omega
          have k1 : (k : Int) < (sl : Int) := by omega
          obtain ⟨-, -, k3, -⟩ := HQ.out _ HI.out.below
          obtain ⟨b2, o2, a, b, rfl, hx, ⟨d0, d1⟩, -⟩ := k3.next (i := k) (by rw [HL.out.2.2]; exact hk)
          clear k3
          have ha : a < n := HT.out.flow_lt _ (List.mem_of_getElem? hx)
          have a0 : decide ((a : Int) < 0) = false := decide_eq_false (by omega)
          have a1 : decide ((n : Int) ≤ (a : Int)) = false := decide_eq_false (by omega)
          have a2 : (a : Int) < (n : Int) := by omega
          obtain ⟨T0, T1, TB, TL⟩ := laidS_at wr a b
          obtain ⟨A0, c0, H0⟩ := HI.out.later TB
          have hl := H0.row.lt
          have hgne : wr.heap.size ≠ gb := fun e => by obtain ⟨A9, c9, H9⟩ := HI.out; have := H9.row.lt; omega
          obtain ⟨g, off, cap, A', c', f0, f1, f2, hsl, hG⟩ := H0.tail ha (restAt_first hx)
          have HG := Lib.hid (fun q => (hG _ (below_drewN (Below.refl _ _) q)).congr (H := restAt ss q' (k + 1)) fun j _ => (restAt_next hx j).symm)
          have HIK := Lib.hid hkz
          clear hx HI hkz H0 TB hG
          generalize (restAt ss q' (k + 1) a).length = lr at *
          obtain ⟨lq, hlq⟩ : ∃ lq, lr + 1 = lq := ⟨_, rfl⟩
          rw [hlq] at f0 hsl
          have q0 : (0 : Int) < (lq : Int) := by omega
          have q2 : 0 < lq := by omega
          have q1 : ((lq : Int) == 0) = false := by rw [beq_eq_false_iff_ne]; omega
          clear hlq
          go_upto_region 15 with fail
          change Code.wp _ _ _ _ (laidS wr a b)
          clear d0 d1
          generalize laidS wr a b = m0 at *
          generalize wr.heap.size = gx at *
          go_quiet (fail)
          go_upto_region 17 with fail
          clear a0 a1 q1
          go_region
          all_goals
            clear f0 f1 f2 hsl hl hgne T0 T1 TL q0 q2 a2
            have HN := Lib.hid (HG.out (nq + 1))
            clear HG
            generalize (m0.drewN (nq + 1)).setCell ⟨gb, a, none⟩ (.slice A' lr c') = w5 at *
            go_wp2_with fail
            go_roundg z
            case measure => omega
            case rel => exact ⟨k + 1, by go_num, by have := HIK.out; omega, HN⟩
        | zero =>
          obtain rfl : k = sl := by omega
          have HJ : Hid (RowsG w wr gb n q') := Lib.hid (HI.out.congr fun j _ => by
            have := restAt_end ss q' j
            rwa [HL.out.2.2] at this)
          clear HI
          go_wp2_with fail
          go_loopg [120] n (fun z c wi => ∃ j : Nat, c = .int .i64 (j : Int) ∧ j + z = n ∧ Hid (RowsG w wi gb n q'))
          case atStart => exact ⟨0, rfl, by omega, HJ⟩
          case round =>
            clear HJ
            obtain ⟨j, rfl, hjz, HI⟩ := hrel
            cases gk with
            | succ z =>
              have hj : j < n := by omega
              have j1 : (j : Int) < (n : Int) := by omega
              obtain ⟨-, -, -, k4⟩ := HQ.out _ HI.out.below
              obtain ⟨b3, o3, x, rfl, hx, d0, -⟩ := k4.next (i := j) (by rw [HLS.out.1]; exact hj)
              clear k4
              rw [HLS.out.2 j hj] at hx
              injection hx with hx
              subst hx
              obtain ⟨A0, c0, H0⟩ := HI.out
              have f0 := H0.row.cell hj
              have hl := H0.row.lt
              have eq0 : (((q' j).length : Int) != ((q' j).length : Int)) = false := by simp
              clear H0 HT HQ HLS HL
              generalize (q' j).length = lq at *
              generalize A0 j = A1 at *
              generalize c0 j = c1 at *
              go_wp2_with fail
              go_roundg z
              case measure => omega
              case rel => exact ⟨j + 1, by go_num, by omega, HI⟩
            | zero =>
              have HZ := Lib.hid HI.out.below
              clear HI HQ HT HLS HL
              go_wp2_with fail
              go_ret
              exact ⟨rfl, HZ.out⟩
end Go.Proofs.Ytobkepipmmkboaa
