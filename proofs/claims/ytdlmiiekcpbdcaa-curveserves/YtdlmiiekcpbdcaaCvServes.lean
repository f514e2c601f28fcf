/- CurveServes: Keeps and Serve answer what K2 says. -/
import Derived.Test.YtdlmiiekcpbdcaaCv8
import Derived.Test.YtdlmiiekcpbdcaaCv9
import Derived.Test.YtdlmiiekcpbdcaaCv10
namespace Go.Proofs.Ytdlmiiekcpbdcaa
open Go.RowKit Go.Maps

theorem two_in (w : World) (a b : Int) : IntsIn (w.alloc (.cells #[.int .i64 a, .int .i64 b] 3)) (some ⟨w.heap.size, 0, none⟩) [a, b] := by
  refine ⟨fun _ => ⟨w.heap.size, 0, rfl, by simp, fun j o ho => ?_⟩, by simp⟩
  have hj : j < 2 := (List.getElem?_eq_some_iff.1 ho).1
  have hc := fun i => cell_of_row _ _ i _ _ _ (heap_alloc_new w (.cells #[.int .i64 a, .int .i64 b] 3))
  rcases (by omega : j = 0 ∨ j = 1) with rfl | rfl <;>
    (simp only [List.getElem?_cons_zero, List.getElem?_cons_succ, Option.some.injEq] at ho; subst ho; exact hc _)
theorem fits2 (a b : Int) (w : World) : Calls Try.prog 13 #[.slice (some ⟨w.heap.size, 0, none⟩) 2 2] (w.alloc (.cells #[.int .i64 a, .int .i64 b] 3)) fun e w' => e = .returned (.bool (!(out20 a || out20 b))) ∧ w.alloc (.cells #[.int .i64 a, .int .i64 b] 3) = w' := by
  have h := kfits_any (two_in w a b) 2
  rw [show [a, b].any out20 = (out20 a || out20 b) by simp] at h
  exact h
theorem alloc_below (w : World) (o : Obj) : Below w.heap.size w (w.alloc o) := (Below.refl _ _).alloc (Nat.le_refl _) o
theorem keeps_no {b r : Int} {xs : List Int} (h : wtr xs = true) : keeps b r xs = (false, 2) := by unfold keeps; rw [h, Bool.or_true, if_pos rfl]
theorem serve_no {l s : Int} {xs : List Int} (h : wtr xs = true) : serve l s xs = ([], 2) := by unfold serve; rw [h, Bool.or_true, if_pos rfl]
theorem keeps_yes {b r : Int} {xs : List Int} (h : wtr xs = false) : keeps b r xs = if (out20 b || out20 r) = true then (false, 2) else (allRun b r xs, 0) := by unfold keeps; rw [h, Bool.or_false, keepsGo_zero]
theorem serve_yes {l s : Int} {xs : List Int} (h : wtr xs = false) : serve l s xs = if (out20 l || out20 s) = true then ([], 2) else (srv l s 0 0 xs, 0) := by unfold serve; rw [h, Bool.or_false]

set_option maxRecDepth 100000 in
set_option maxHeartbeats 16000000 in
theorem serves_no {w : World} {xs : List Int} {A : Option Addr} {n : Nat} (hP : IntsIn w A xs) (hn : xs.length = n) (cap : Nat) (b r l s : Int) (ht : wtr xs = true) :
    Calls Try.prog 4 #[.agg #[.int .i64 b, .int .i64 r], .agg #[.int .i64 l, .int .i64 s], .slice A n cap] w fun e w' => e = .returned (.bool true) ∧ Below w.heap.size w w' := by
  have hk := keeps_no (b := b) (r := r) ht
  have hv := serve_no (l := l) (s := s) ht
  have HX := Lib.hid (laid2_at w b r l s)
  have HPB := Lib.hid (fun W (hW : Below w.heap.size w W) => hP.below hW)
  have HK := Lib.hid (fun W (hW : Below w.heap.size w W) => keeps_any (hP.below hW) cap b r)
  have HS := Lib.hid (fun W (hW : Below w.heap.size w W) => serve_any (hP.below hW) cap l s)
  have HF := Lib.hid (fun W (hW : Below w.heap.size w W) => kfits_any (hP.below hW) cap)
  rw [hk] at HK
  rw [hv] at HS
  have hlen := hP.len
  unfold Served at HS
  dsimp only [List.length_nil] at HS HK
  rw [hn] at HK HS HF hlen
  unfold wtr at ht
  rw [hn] at ht
  clear hP hk hv
  by_cases c : 400 < (n : Int)
  · clear ht HF
    go_enter Try.func4, Try.ntmps4
    go_upto_region 1 with fail
    change Code.wp _ _ _ _ (laid2 w b r l s)
    generalize laid2 w b r l s = m0 at *
    obtain ⟨⟨c0, c1⟩, c2, c3⟩ := HX.out.cells
    go_wp2_with fail
    refine (HK.out _ HX.out.below).mono ?_
    rintro e1 w1 ⟨rfl, hb⟩
    have HY := Lib.hid (HX.out.later hb)
    clear HX HK hb c0 c1 c2 c3
    obtain ⟨⟨c0, c1⟩, c2, c3⟩ := HY.out.cells
    go_wp2_with fail
    refine (HS.out _ HY.out.below).mono ?_
    rintro e1 w2 ⟨R, cR, rfl, hRc, hR, hb⟩
    have HX := Lib.hid (And.intro (HY.out.later hb) hR)
    clear HY HS hb hR hRc c0 c1 c2 c3
    obtain ⟨⟨c0, c1⟩, c2, c3⟩ := HX.out.1.cells
    go_wp2_with fail
    go_ret
    exact ⟨ret_bool (by simp), HX.out.1.below⟩
  · have ha : xs.any out20 = true := by
      rw [decide_eq_false c, Bool.false_or] at ht
      exact ht
    rw [ha] at HF
    clear ht ha
    go_enter Try.func4, Try.ntmps4
    go_upto_region 1 with fail
    change Code.wp _ _ _ _ (laid2 w b r l s)
    generalize laid2 w b r l s = m0 at *
    obtain ⟨⟨c0, c1⟩, c2, c3⟩ := HX.out.cells
    go_wp2_with fail
    refine (HK.out _ HX.out.below).mono ?_
    rintro e1 w1 ⟨rfl, hb⟩
    have HY := Lib.hid (HX.out.later hb)
    clear HX HK hb c0 c1 c2 c3
    obtain ⟨⟨c0, c1⟩, c2, c3⟩ := HY.out.cells
    go_wp2_with fail
    refine (HS.out _ HY.out.below).mono ?_
    rintro e1 w2 ⟨R, cR, rfl, hRc, hR, hb⟩
    have HX := Lib.hid (And.intro (HY.out.later hb) hR)
    clear HY HS hb hR hRc c0 c1 c2 c3
    obtain ⟨⟨c0, c1⟩, c2, c3⟩ := HX.out.1.cells
    go_wp2_with fail
    refine (HF.out _ HX.out.1.below).mono ?_
    rintro e1 w3 ⟨rfl, rfl⟩
    go_wp2_with fail
    go_ret
    exact ⟨ret_bool (by simp), HX.out.1.below⟩

set_option maxRecDepth 100000 in
set_option maxHeartbeats 16000000 in
theorem serves_cs {w : World} {xs : List Int} {A : Option Addr} {n : Nat} (hP : IntsIn w A xs) (hn : xs.length = n) (cap : Nat) (b r l s : Int) (ht : wtr xs = false) (hc : (out20 b || out20 r) = true) (hs : (out20 l || out20 s) = true) :
    Calls Try.prog 4 #[.agg #[.int .i64 b, .int .i64 r], .agg #[.int .i64 l, .int .i64 s], .slice A n cap] w fun e w' => e = .returned (.bool true) ∧ Below w.heap.size w w' := by
  have hk : keeps b r xs = (false, 2) := by rw [keeps_yes ht, hc]; rfl
  have hv : serve l s xs = ([], 2) := by rw [serve_yes ht, hs]; rfl
  have HX := Lib.hid (laid2_at w b r l s)
  have HPB := Lib.hid (fun W (hW : Below w.heap.size w W) => hP.below hW)
  have HK := Lib.hid (fun W (hW : Below w.heap.size w W) => keeps_any (hP.below hW) cap b r)
  have HS := Lib.hid (fun W (hW : Below w.heap.size w W) => serve_any (hP.below hW) cap l s)
  have HF := Lib.hid (fun W (hW : Below w.heap.size w W) => kfits_any (hP.below hW) cap)
  rw [hk] at HK
  rw [hv] at HS
  have hlen := hP.len
  unfold Served at HS
  dsimp only [List.length_nil] at HS HK
  rw [hn] at HK HS HF hlen
  have HC := Lib.hid (fun W => fits2 b r W)
  have HQ := Lib.hid (fun W => fits2 l s W)
  rw [hc] at HC
  rw [hs] at HQ
  simp only [Bool.not_true] at HC HQ
  have ht2 := wtr_false.1 ht
  have c : ¬ 400 < (n : Int) := by omega
  have ha : xs.any out20 = false := by
    unfold wtr at ht
    rw [Bool.or_eq_false_iff] at ht
    exact ht.2
  rw [ha] at HF
  clear ht ht2 ha
  clear hP hk hv
  go_enter Try.func4, Try.ntmps4
  go_upto_region 1 with fail
  change Code.wp _ _ _ _ (laid2 w b r l s)
  generalize laid2 w b r l s = m0 at *
  obtain ⟨⟨c0, c1⟩, c2, c3⟩ := HX.out.cells
  go_wp2_with fail
  refine (HK.out _ HX.out.below).mono ?_
  rintro e1 w1 ⟨rfl, hb⟩
  have HY := Lib.hid (HX.out.later hb)
  clear HX HK hb c0 c1 c2 c3
  obtain ⟨⟨c0, c1⟩, c2, c3⟩ := HY.out.cells
  go_wp2_with fail
  refine (HS.out _ HY.out.below).mono ?_
  rintro e1 w2 ⟨R, cR, rfl, hRc, hR, hb⟩
  have HX := Lib.hid (And.intro (HY.out.later hb) hR)
  clear HY HS hb hR hRc c0 c1 c2 c3
  obtain ⟨⟨c0, c1⟩, c2, c3⟩ := HX.out.1.cells
  go_wp2_with fail
  refine (HF.out _ HX.out.1.below).mono ?_
  rintro e1 w3 ⟨rfl, rfl⟩
  clear HF
  go_wp2_with fail
  refine (HC.out _).mono ?_
  rintro e1 w4 ⟨rfl, hw4⟩
  have HY := Lib.hid (And.intro (HX.out.1.later (alloc_below w2 (.cells #[.int .i64 b, .int .i64 r] 3))) (HX.out.2.below (alloc_below w2 (.cells #[.int .i64 b, .int .i64 r] 3))))
  rw [hw4] at HY
  clear HX HC hw4 c0 c1 c2 c3
  obtain ⟨⟨c0, c1⟩, c2, c3⟩ := HY.out.1.cells
  go_wp2_with fail
  obtain ⟨w5, hw5⟩ : ∃ w5, w5 = w4 := ⟨_, rfl⟩
  subst hw5
  have HX := HY
  clear HY
  refine (HQ.out _).mono ?_
  rintro e1 w6 ⟨rfl, hw6⟩
  have HY := Lib.hid (And.intro (HX.out.1.later (alloc_below w5 (.cells #[.int .i64 l, .int .i64 s] 3))) (HX.out.2.below (alloc_below w5 (.cells #[.int .i64 l, .int .i64 s] 3))))
  rw [hw6] at HY
  clear HX HQ hw6 c0 c1 c2 c3
  obtain ⟨⟨c0, c1⟩, c2, c3⟩ := HY.out.1.cells
  go_wp2_with fail
  go_ret
  exact ⟨ret_bool (by simp), HY.out.1.below⟩

set_option maxRecDepth 100000 in
set_option maxHeartbeats 16000000 in
theorem serves_c {w : World} {xs : List Int} {A : Option Addr} {n : Nat} (hP : IntsIn w A xs) (hn : xs.length = n) (cap : Nat) (b r l s : Int) (ht : wtr xs = false) (hc : (out20 b || out20 r) = true) (hs : (out20 l || out20 s) = false) :
    Calls Try.prog 4 #[.agg #[.int .i64 b, .int .i64 r], .agg #[.int .i64 l, .int .i64 s], .slice A n cap] w fun e w' => e = .returned (.bool true) ∧ Below w.heap.size w w' := by
  have hk : keeps b r xs = (false, 2) := by rw [keeps_yes ht, hc]; rfl
  have hv : serve l s xs = (srv l s 0 0 xs, 0) := by rw [serve_yes ht, hs]; rfl
  have HX := Lib.hid (laid2_at w b r l s)
  have HPB := Lib.hid (fun W (hW : Below w.heap.size w W) => hP.below hW)
  have HK := Lib.hid (fun W (hW : Below w.heap.size w W) => keeps_any (hP.below hW) cap b r)
  have HS := Lib.hid (fun W (hW : Below w.heap.size w W) => serve_any (hP.below hW) cap l s)
  have HF := Lib.hid (fun W (hW : Below w.heap.size w W) => kfits_any (hP.below hW) cap)
  rw [hk] at HK
  rw [hv] at HS
  have hlen := hP.len
  unfold Served at HS
  dsimp only [List.length_nil] at HS HK
  rw [hn] at HK HS HF hlen
  have HC := Lib.hid (fun W => fits2 b r W)
  have HQ := Lib.hid (fun W => fits2 l s W)
  rw [hc] at HC
  rw [hs] at HQ
  simp only [Bool.not_true, Bool.not_false] at HC HQ
  rw [Bool.or_eq_false_iff, out20_false, out20_false] at hs
  have HSS := Lib.hid (fun W (hW : Below w.heap.size w W) => kserve_any (hP.below hW) cap hs.1 hs.2 ht)
  rw [hn] at HSS
  unfold KServed at HSS
  generalize srv l s 0 0 xs = SR at *
  have ht2 := wtr_false.1 ht
  have c : ¬ 400 < (n : Int) := by omega
  have ha : xs.any out20 = false := by
    unfold wtr at ht
    rw [Bool.or_eq_false_iff] at ht
    exact ht.2
  rw [ha] at HF
  clear ht ht2 ha
  clear hP hk hv
  go_enter Try.func4, Try.ntmps4
  go_upto_region 1 with fail
  change Code.wp _ _ _ _ (laid2 w b r l s)
  generalize laid2 w b r l s = m0 at *
  obtain ⟨⟨c0, c1⟩, c2, c3⟩ := HX.out.cells
  go_wp2_with fail
  refine (HK.out _ HX.out.below).mono ?_
  rintro e1 w1 ⟨rfl, hb⟩
  have HY := Lib.hid (HX.out.later hb)
  clear HX HK hb c0 c1 c2 c3
  obtain ⟨⟨c0, c1⟩, c2, c3⟩ := HY.out.cells
  go_wp2_with fail
  refine (HS.out _ HY.out.below).mono ?_
  rintro e1 w2 ⟨R, cR, rfl, hRc, hR, hb⟩
  have HX := Lib.hid (And.intro (HY.out.later hb) hR)
  clear HY HS hb hR hRc c0 c1 c2 c3
  obtain ⟨⟨c0, c1⟩, c2, c3⟩ := HX.out.1.cells
  go_wp2_with fail
  refine (HF.out _ HX.out.1.below).mono ?_
  rintro e1 w3 ⟨rfl, rfl⟩
  clear HF
  go_wp2_with fail
  refine (HC.out _).mono ?_
  rintro e1 w4 ⟨rfl, hw4⟩
  have HY := Lib.hid (And.intro (HX.out.1.later (alloc_below w2 (.cells #[.int .i64 b, .int .i64 r] 3))) (HX.out.2.below (alloc_below w2 (.cells #[.int .i64 b, .int .i64 r] 3))))
  rw [hw4] at HY
  clear HX HC hw4 c0 c1 c2 c3
  obtain ⟨⟨c0, c1⟩, c2, c3⟩ := HY.out.1.cells
  go_wp2_with fail
  obtain ⟨w5, hw5⟩ : ∃ w5, w5 = w4 := ⟨_, rfl⟩
  subst hw5
  have HX := HY
  clear HY
  refine (HQ.out _).mono ?_
  rintro e1 w6 ⟨rfl, hw6⟩
  have HY := Lib.hid (And.intro (HX.out.1.later (alloc_below w5 (.cells #[.int .i64 l, .int .i64 s] 3))) (HX.out.2.below (alloc_below w5 (.cells #[.int .i64 l, .int .i64 s] 3))))
  rw [hw6] at HY
  clear HX HQ hw6 c0 c1 c2 c3
  obtain ⟨⟨c0, c1⟩, c2, c3⟩ := HY.out.1.cells
  go_wp2_with fail
  refine (HSS.out _ HY.out.1.below).mono ?_
  rintro e1 w7 ⟨R2, cR2, rfl, hR2, hb⟩
  have HE := Lib.hid (equal_any (HY.out.2.below hb) hR2 cR cR2)
  rw [decide_eq_true rfl] at HE
  have HX := Lib.hid (HY.out.1.later hb).below
  clear HY HSS hb hR2 c0 c1 c2 c3
  go_wp2_with fail
  refine HE.out.mono ?_
  rintro e1 w8 ⟨rfl, k, rfl⟩
  go_wp2_with fail
  go_ret
  exact ⟨ret_bool (by simp), below_drewN HX.out k⟩

set_option maxRecDepth 100000 in
set_option maxHeartbeats 16000000 in
theorem serves_s {w : World} {xs : List Int} {A : Option Addr} {n : Nat} (hP : IntsIn w A xs) (hn : xs.length = n) (cap : Nat) (b r l s : Int) (ht : wtr xs = false) (hc : (out20 b || out20 r) = false) (hs : (out20 l || out20 s) = true) :
    Calls Try.prog 4 #[.agg #[.int .i64 b, .int .i64 r], .agg #[.int .i64 l, .int .i64 s], .slice A n cap] w fun e w' => e = .returned (.bool true) ∧ Below w.heap.size w w' := by
  have hk : keeps b r xs = (allRun b r xs, 0) := by rw [keeps_yes ht, hc]; rfl
  have hv : serve l s xs = ([], 2) := by rw [serve_yes ht, hs]; rfl
  have HX := Lib.hid (laid2_at w b r l s)
  have HPB := Lib.hid (fun W (hW : Below w.heap.size w W) => hP.below hW)
  have HK := Lib.hid (fun W (hW : Below w.heap.size w W) => keeps_any (hP.below hW) cap b r)
  have HS := Lib.hid (fun W (hW : Below w.heap.size w W) => serve_any (hP.below hW) cap l s)
  have HF := Lib.hid (fun W (hW : Below w.heap.size w W) => kfits_any (hP.below hW) cap)
  rw [hk] at HK
  rw [hv] at HS
  have hlen := hP.len
  unfold Served at HS
  dsimp only [List.length_nil] at HS HK
  rw [hn] at HK HS HF hlen
  have HC := Lib.hid (fun W => fits2 b r W)
  have HQ := Lib.hid (fun W => fits2 l s W)
  rw [hc] at HC
  rw [hs] at HQ
  simp only [Bool.not_true, Bool.not_false] at HC HQ
  rw [Bool.or_eq_false_iff, out20_false, out20_false] at hc
  have HKK := Lib.hid (fun W (hW : Below w.heap.size w W) => kkeeps_any (hP.below hW) cap hc.1 hc.2 ht)
  rw [hn] at HKK
  generalize allRun b r xs = KR at *
  have ht2 := wtr_false.1 ht
  have c : ¬ 400 < (n : Int) := by omega
  have ha : xs.any out20 = false := by
    unfold wtr at ht
    rw [Bool.or_eq_false_iff] at ht
    exact ht.2
  rw [ha] at HF
  clear ht ht2 ha
  clear hP hk hv
  go_enter Try.func4, Try.ntmps4
  go_upto_region 1 with fail
  change Code.wp _ _ _ _ (laid2 w b r l s)
  generalize laid2 w b r l s = m0 at *
  obtain ⟨⟨c0, c1⟩, c2, c3⟩ := HX.out.cells
  go_wp2_with fail
  refine (HK.out _ HX.out.below).mono ?_
  rintro e1 w1 ⟨rfl, hb⟩
  have HY := Lib.hid (HX.out.later hb)
  clear HX HK hb c0 c1 c2 c3
  obtain ⟨⟨c0, c1⟩, c2, c3⟩ := HY.out.cells
  go_wp2_with fail
  refine (HS.out _ HY.out.below).mono ?_
  rintro e1 w2 ⟨R, cR, rfl, hRc, hR, hb⟩
  have HX := Lib.hid (And.intro (HY.out.later hb) hR)
  clear HY HS hb hR hRc c0 c1 c2 c3
  obtain ⟨⟨c0, c1⟩, c2, c3⟩ := HX.out.1.cells
  go_wp2_with fail
  refine (HF.out _ HX.out.1.below).mono ?_
  rintro e1 w3 ⟨rfl, rfl⟩
  clear HF
  go_wp2_with fail
  refine (HC.out _).mono ?_
  rintro e1 w4 ⟨rfl, hw4⟩
  have HY := Lib.hid (And.intro (HX.out.1.later (alloc_below w2 (.cells #[.int .i64 b, .int .i64 r] 3))) (HX.out.2.below (alloc_below w2 (.cells #[.int .i64 b, .int .i64 r] 3))))
  rw [hw4] at HY
  clear HX HC hw4 c0 c1 c2 c3
  obtain ⟨⟨c0, c1⟩, c2, c3⟩ := HY.out.1.cells
  go_wp2_with fail
  refine (HKK.out _ HY.out.1.below).mono ?_
  rintro e1 w5 ⟨rfl, hb⟩
  have HX := Lib.hid (And.intro (HY.out.1.later hb) (HY.out.2.below hb))
  clear HY HKK hb c0 c1 c2 c3
  obtain ⟨⟨c0, c1⟩, c2, c3⟩ := HX.out.1.cells
  go_wp2_with fail
  refine (HQ.out _).mono ?_
  rintro e1 w6 ⟨rfl, hw6⟩
  have HY := Lib.hid (And.intro (HX.out.1.later (alloc_below w5 (.cells #[.int .i64 l, .int .i64 s] 3))) (HX.out.2.below (alloc_below w5 (.cells #[.int .i64 l, .int .i64 s] 3))))
  rw [hw6] at HY
  clear HX HQ hw6 c0 c1 c2 c3
  obtain ⟨⟨c0, c1⟩, c2, c3⟩ := HY.out.1.cells
  go_wp2_with fail
  go_ret
  exact ⟨ret_bool (by simp), HY.out.1.below⟩

set_option maxRecDepth 100000 in
set_option maxHeartbeats 16000000 in
theorem serves_all {w : World} {xs : List Int} {A : Option Addr} {n : Nat} (hP : IntsIn w A xs) (hn : xs.length = n) (cap : Nat) (b r l s : Int) (ht : wtr xs = false) (hc : (out20 b || out20 r) = false) (hs : (out20 l || out20 s) = false) :
    Calls Try.prog 4 #[.agg #[.int .i64 b, .int .i64 r], .agg #[.int .i64 l, .int .i64 s], .slice A n cap] w fun e w' => e = .returned (.bool true) ∧ Below w.heap.size w w' := by
  have hk : keeps b r xs = (allRun b r xs, 0) := by rw [keeps_yes ht, hc]; rfl
  have hv : serve l s xs = (srv l s 0 0 xs, 0) := by rw [serve_yes ht, hs]; rfl
  have HX := Lib.hid (laid2_at w b r l s)
  have HPB := Lib.hid (fun W (hW : Below w.heap.size w W) => hP.below hW)
  have HK := Lib.hid (fun W (hW : Below w.heap.size w W) => keeps_any (hP.below hW) cap b r)
  have HS := Lib.hid (fun W (hW : Below w.heap.size w W) => serve_any (hP.below hW) cap l s)
  have HF := Lib.hid (fun W (hW : Below w.heap.size w W) => kfits_any (hP.below hW) cap)
  rw [hk] at HK
  rw [hv] at HS
  have hlen := hP.len
  unfold Served at HS
  dsimp only [List.length_nil] at HS HK
  rw [hn] at HK HS HF hlen
  have HC := Lib.hid (fun W => fits2 b r W)
  have HQ := Lib.hid (fun W => fits2 l s W)
  rw [hc] at HC
  rw [hs] at HQ
  simp only [Bool.not_false] at HC HQ
  rw [Bool.or_eq_false_iff, out20_false, out20_false] at hc
  have HKK := Lib.hid (fun W (hW : Below w.heap.size w W) => kkeeps_any (hP.below hW) cap hc.1 hc.2 ht)
  rw [hn] at HKK
  generalize allRun b r xs = KR at *
  rw [Bool.or_eq_false_iff, out20_false, out20_false] at hs
  have HSS := Lib.hid (fun W (hW : Below w.heap.size w W) => kserve_any (hP.below hW) cap hs.1 hs.2 ht)
  rw [hn] at HSS
  unfold KServed at HSS
  generalize srv l s 0 0 xs = SR at *
  have ht2 := wtr_false.1 ht
  have c : ¬ 400 < (n : Int) := by omega
  have ha : xs.any out20 = false := by
    unfold wtr at ht
    rw [Bool.or_eq_false_iff] at ht
    exact ht.2
  rw [ha] at HF
  clear ht ht2 ha
  clear hP hk hv
  go_enter Try.func4, Try.ntmps4
  go_upto_region 1 with fail
  change Code.wp _ _ _ _ (laid2 w b r l s)
  generalize laid2 w b r l s = m0 at *
  obtain ⟨⟨c0, c1⟩, c2, c3⟩ := HX.out.cells
  go_wp2_with fail
  refine (HK.out _ HX.out.below).mono ?_
  rintro e1 w1 ⟨rfl, hb⟩
  have HY := Lib.hid (HX.out.later hb)
  clear HX HK hb c0 c1 c2 c3
  obtain ⟨⟨c0, c1⟩, c2, c3⟩ := HY.out.cells
  go_wp2_with fail
  refine (HS.out _ HY.out.below).mono ?_
  rintro e1 w2 ⟨R, cR, rfl, hRc, hR, hb⟩
  have HX := Lib.hid (And.intro (HY.out.later hb) hR)
  clear HY HS hb hR hRc c0 c1 c2 c3
  obtain ⟨⟨c0, c1⟩, c2, c3⟩ := HX.out.1.cells
  go_wp2_with fail
  refine (HF.out _ HX.out.1.below).mono ?_
  rintro e1 w3 ⟨rfl, rfl⟩
  clear HF
  go_wp2_with fail
  refine (HC.out _).mono ?_
  rintro e1 w4 ⟨rfl, hw4⟩
  have HY := Lib.hid (And.intro (HX.out.1.later (alloc_below w2 (.cells #[.int .i64 b, .int .i64 r] 3))) (HX.out.2.below (alloc_below w2 (.cells #[.int .i64 b, .int .i64 r] 3))))
  rw [hw4] at HY
  clear HX HC hw4 c0 c1 c2 c3
  obtain ⟨⟨c0, c1⟩, c2, c3⟩ := HY.out.1.cells
  go_wp2_with fail
  refine (HKK.out _ HY.out.1.below).mono ?_
  rintro e1 w5 ⟨rfl, hb⟩
  have HX := Lib.hid (And.intro (HY.out.1.later hb) (HY.out.2.below hb))
  clear HY HKK hb c0 c1 c2 c3
  obtain ⟨⟨c0, c1⟩, c2, c3⟩ := HX.out.1.cells
  go_wp2_with fail
  refine (HQ.out _).mono ?_
  rintro e1 w6 ⟨rfl, hw6⟩
  have HY := Lib.hid (And.intro (HX.out.1.later (alloc_below w5 (.cells #[.int .i64 l, .int .i64 s] 3))) (HX.out.2.below (alloc_below w5 (.cells #[.int .i64 l, .int .i64 s] 3))))
  rw [hw6] at HY
  clear HX HQ hw6 c0 c1 c2 c3
  obtain ⟨⟨c0, c1⟩, c2, c3⟩ := HY.out.1.cells
  go_wp2_with fail
  refine (HSS.out _ HY.out.1.below).mono ?_
  rintro e1 w7 ⟨R2, cR2, rfl, hR2, hb⟩
  have HE := Lib.hid (equal_any (HY.out.2.below hb) hR2 cR cR2)
  rw [decide_eq_true rfl] at HE
  have HX := Lib.hid (HY.out.1.later hb).below
  clear HY HSS hb hR2 c0 c1 c2 c3
  go_wp2_with fail
  refine HE.out.mono ?_
  rintro e1 w8 ⟨rfl, k, rfl⟩
  go_wp2_with fail
  go_ret
  exact ⟨ret_bool (by simp), below_drewN HX.out k⟩

theorem serves_law {w : World} {xs : List Int} {A : Option Addr} {n : Nat} (hP : IntsIn w A xs) (hn : xs.length = n) (cap : Nat) (b r l s : Int) :
    Calls Try.prog 4 #[.agg #[.int .i64 b, .int .i64 r], .agg #[.int .i64 l, .int .i64 s], .slice A n cap] w fun e w' => e = .returned (.bool true) ∧ Below w.heap.size w w' := by
  cases ht : wtr xs with
  | true => exact serves_no hP hn cap b r l s ht
  | false =>
    cases hc : out20 b || out20 r with
    | true =>
      cases hs : out20 l || out20 s with
      | true => exact serves_cs hP hn cap b r l s ht hc hs
      | false => exact serves_c hP hn cap b r l s ht hc hs
    | false =>
      cases hs : out20 l || out20 s with
      | true => exact serves_s hP hn cap b r l s ht hc hs
      | false => exact serves_all hP hn cap b r l s ht hc hs
end Go.Proofs.Ytdlmiiekcpbdcaa
