/- CurveBounds: Wrong, Delay, Backlog and Chain answer what K1 says. -/
import Derived.Test.YtdlmiiekcpbdcaaCvChain
import Derived.Test.YtdlmiiekcpbdcaaCv8
namespace Go.Proofs.Ytdlmiiekcpbdcaa
open Go.RowKit Go.Maps

theorem four_in (w : World) (a b c d : Int) : IntsIn (w.alloc (.cells #[.int .i64 a, .int .i64 b, .int .i64 c, .int .i64 d] 3)) (some ⟨w.heap.size, 0, none⟩) [a, b, c, d] := by
  refine ⟨fun _ => ⟨w.heap.size, 0, rfl, by simp, fun j o ho => ?_⟩, by simp⟩
  have hj : j < 4 := (List.getElem?_eq_some_iff.1 ho).1
  have hc := fun i => cell_of_row _ _ i _ _ _ (heap_alloc_new w (.cells #[.int .i64 a, .int .i64 b, .int .i64 c, .int .i64 d] 3))
  rcases (by omega : j = 0 ∨ j = 1 ∨ j = 2 ∨ j = 3) with rfl | rfl | rfl | rfl <;>
    (simp only [List.getElem?_cons_zero, List.getElem?_cons_succ, Option.some.injEq] at ho; subst ho; exact hc _)
theorem fits4 (a b c d : Int) (w : World) : Calls Try.prog 13 #[.slice (some ⟨w.heap.size, 0, none⟩) 4 4] (w.alloc (.cells #[.int .i64 a, .int .i64 b, .int .i64 c, .int .i64 d] 3)) fun e w' => e = .returned (.bool (!wrong4 a b c d)) ∧ w.alloc (.cells #[.int .i64 a, .int .i64 b, .int .i64 c, .int .i64 d] 3) = w' := by
  have h := kfits_any (four_in w a b c d) 4
  rw [show [a, b, c, d].any out20 = wrong4 a b c d by simp [wrong4, Bool.or_assoc]] at h
  exact h
theorem Three.alloc {w0 w : World} {b r l s m t : Int} (h : Three w0 w b r l s m t) (o : Obj) : Three w0 (w.alloc o) b r l s m t := h.later ((Below.refl _ _).alloc (Nat.le_refl _) o)
theorem SerAt.alloc {w : World} {g : Nat} {m t : Int} (h : SerAt w g m t) (o : Obj) : SerAt (w.alloc o) g m t := h.below ((Below.refl _ _).alloc (Nat.le_refl _) o)

set_option maxRecDepth 100000 in
set_option maxHeartbeats 16000000 in
theorem bounds_bad {b r l s m t : Int} (hf : wrong4 b r l s = true) (hD : delay b r l s = (0, 2)) (hB : backlog b r l s = (0, 2)) (w : World) :
    Calls Try.prog 3 #[.agg #[.int .i64 b, .int .i64 r], .agg #[.int .i64 l, .int .i64 s], .agg #[.int .i64 m, .int .i64 t]] w fun e w' => e = .returned (.bool true) ∧ Below w.heap.size w w' := by
  have HX := Lib.hid (laid4_at w b r l s m t)
  have HD := Lib.hid (fun w => delay_any b r l s w)
  have HB := Lib.hid (fun w => backlog_any b r l s w)
  have HU := Lib.hid (fun w => chain_any l s m t w)
  have HF := Lib.hid (fun w => fits4 b r l s w)
  have HG := Lib.hid (fun w => fits4 l s m t w)
  have HW := Lib.hid (fun w => wrong_any b r l s w)
  rw [hD] at HD
  rw [hB] at HB
  rw [hf] at HF HW
  rw [if_pos rfl] at HW
  dsimp only [Bool.not_true, Bool.not_false] at HD HB HF
  clear hD hB hf
  have hu := chain_way l s m t
  generalize chain l s m t = U at *
  obtain ⟨⟨u0, u1⟩, ue⟩ := U
  dsimp only at HU
  have hu' : (ue = 2 ∧ u0 = 0 ∧ u1 = 0 ∧ wrong4 l s m t = true) ∨ (wrong4 l s m t = false ∧ ((ue = 4 ∧ u0 = 0 ∧ u1 = 0 ∧ 1048576 < l + m) ∨ (ue = 0 ∧ u0 = l + m ∧ u1 = min s t ∧ l + m ≤ 1048576))) := by
    cases hu with
    | bad h => exact .inl ⟨rfl, rfl, rfl, h⟩
    | full h h1 => exact .inr ⟨h, .inl ⟨rfl, rfl, rfl, h1⟩⟩
    | good h h1 => exact .inr ⟨h, .inr ⟨rfl, rfl, rfl, h1⟩⟩
  have HU2 := Lib.hid hu'
  clear hu hu'
  go_enter Try.func3, Try.ntmps3
  go_upto_region 1 with fail
  change Code.wp _ _ _ _ (laid4 w b r l s m t)
  generalize laid4 w b r l s m t = m0 at *
  obtain ⟨⟨⟨c0, c1⟩, c2, c3⟩, c4, c5⟩ := And.intro HX.out.two.cells HX.out.ser.cells
  go_wp2_with fail
  refine (HD.out _).mono ?_
  rintro e1 w1 ⟨rfl, hb⟩
  have HY := Lib.hid (HX.out.later hb)
  clear HX HD hb c0 c1 c2 c3 c4 c5
  obtain ⟨⟨⟨c0, c1⟩, c2, c3⟩, c4, c5⟩ := And.intro HY.out.two.cells HY.out.ser.cells
  go_wp2_with fail
  refine (HB.out _).mono ?_
  rintro e1 w2 ⟨rfl, hb⟩
  have HX := Lib.hid (HY.out.later hb)
  clear HY HB hb c0 c1 c2 c3 c4 c5
  obtain ⟨⟨⟨c0, c1⟩, c2, c3⟩, c4, c5⟩ := And.intro HX.out.two.cells HX.out.ser.cells
  go_wp2_with fail
  refine (HU.out _).mono ?_
  rintro e1 w3 ⟨rfl, hb⟩
  have hl := laidS_at w3 u0 u1
  have HY := Lib.hid (And.intro ((HX.out.later hb).later hl.2.1) hl.1)
  clear HX HU hb hl c0 c1 c2 c3 c4 c5
  go_upto_region 4 with fail
  change Code.wp _ _ _ _ (laidS w3 u0 u1)
  generalize laidS w3 u0 u1 = w4 at *
  generalize w3.heap.size = g11 at *
  obtain ⟨⟨⟨c0, c1⟩, c2, c3⟩, c4, c5⟩ := And.intro HY.out.1.two.cells HY.out.1.ser.cells
  go_wp2_with fail
  refine (HF.out _).mono ?_
  rintro e1 w5 ⟨rfl, hw5⟩
  have HX := Lib.hid (And.intro (HY.out.1.alloc (.cells #[.int .i64 b, .int .i64 r, .int .i64 l, .int .i64 s] 3)) (HY.out.2.alloc (.cells #[.int .i64 b, .int .i64 r, .int .i64 l, .int .i64 s] 3)))
  rw [hw5] at HX
  clear HY HF hw5 c0 c1 c2 c3 c4 c5
  obtain ⟨⟨⟨c0, c1⟩, c2, c3⟩, c4, c5⟩ := And.intro HX.out.1.two.cells HX.out.1.ser.cells
  go_wp2_with fail
  refine (HW.out _).mono ?_
  rintro e1 w6 ⟨rfl, hb⟩
  have HY := Lib.hid (And.intro (HX.out.1.later hb) (HX.out.2.below hb))
  clear HX hb c0 c1 c2 c3 c4 c5
  obtain ⟨⟨⟨c0, c1⟩, c2, c3⟩, c4, c5⟩ := And.intro HY.out.1.two.cells HY.out.1.ser.cells
  go_wp2_with fail
  refine (HG.out _).mono ?_
  rintro e1 w7 ⟨rfl, hw7⟩
  have HX := Lib.hid (And.intro (HY.out.1.alloc (.cells #[.int .i64 l, .int .i64 s, .int .i64 m, .int .i64 t] 3)) (HY.out.2.alloc (.cells #[.int .i64 l, .int .i64 s, .int .i64 m, .int .i64 t] 3)))
  rw [hw7] at HX
  clear HY HG hw7 c0 c1 c2 c3 c4 c5
  obtain ⟨⟨⟨c0, c1⟩, c2, c3⟩, c4, c5⟩ := And.intro HX.out.1.two.cells HX.out.1.ser.cells
  obtain ⟨k0, k1⟩ := HX.out.2.cells
  rcases HU2.out with ⟨z1, z2, z3, z4⟩ | ⟨z4, ⟨z1, z2, z3, z5⟩ | ⟨z1, z2, z3, z5⟩⟩
  · subst z1 z2 z3
    rw [z4]
    clear z4 HU2
    go_wp2_with fail
    refine (HW.out _).mono ?_
    rintro e1 w8 ⟨rfl, hb⟩
    have HY := Lib.hid (HX.out.1.later hb).two.below
    clear HX hb c0 c1 c2 c3 c4 c5 k0 k1
    go_wp2_with fail
    go_ret
    exact ⟨ret_bool (by simp), HY.out⟩
  · subst z1 z2 z3
    have hp := wrong4_false.1 z4
    have q3 : wrap64 (l + m) = l + m := IntWalk.wrap64_in _ (by constructor <;> omega)
    rw [z4]
    clear z4 HU2 hp
    go_wp2_with fail
    refine (HW.out _).mono ?_
    rintro e1 w8 ⟨rfl, hb⟩
    have HY := Lib.hid (HX.out.1.later hb).two.below
    clear HX hb c0 c1 c2 c3 c4 c5 k0 k1
    go_wp2_with fail
    go_ret
    exact ⟨ret_bool (by simp), HY.out⟩
  · subst z1
    have hp := wrong4_false.1 z4
    have q3 : wrap64 (l + m) = u0 := by rw [IntWalk.wrap64_in _ (by constructor <;> omega)]; exact z2.symm
    have q4 : (if t < s then t else s) = u1 := by rw [z3]; split <;> omega
    have q5 : ¬ 1048576 < u0 := by omega
    rw [z4]
    clear z4 z2 z3 z5 HU2 hp
    go_wp2_with fail
    refine (HW.out _).mono ?_
    rintro e1 w8 ⟨rfl, hb⟩
    have HY := Lib.hid (HX.out.1.later hb).two.below
    clear HX hb c0 c1 c2 c3 c4 c5 k0 k1
    go_wp2_with fail
    go_ret
    exact ⟨ret_bool (by simp), HY.out⟩
set_option maxRecDepth 100000 in
set_option maxHeartbeats 16000000 in
theorem bounds_none {b r l s m t : Int} (hf : wrong4 b r l s = false) (hk : kdelay b r l s = -1) (hD : delay b r l s = (0, 3)) (hB : backlog b r l s = (0, 3)) (w : World) :
    Calls Try.prog 3 #[.agg #[.int .i64 b, .int .i64 r], .agg #[.int .i64 l, .int .i64 s], .agg #[.int .i64 m, .int .i64 t]] w fun e w' => e = .returned (.bool true) ∧ Below w.heap.size w w' := by
  have HX := Lib.hid (laid4_at w b r l s m t)
  have HD := Lib.hid (fun w => delay_any b r l s w)
  have HB := Lib.hid (fun w => backlog_any b r l s w)
  have HU := Lib.hid (fun w => chain_any l s m t w)
  have HF := Lib.hid (fun w => fits4 b r l s w)
  have HG := Lib.hid (fun w => fits4 l s m t w)
  have HW := Lib.hid (fun w => wrong_any b r l s w)
  rw [hD] at HD
  rw [hB] at HB
  rw [hf] at HF HW
  rw [if_neg (by decide)] at HW
  dsimp only [Bool.not_true, Bool.not_false] at HD HB HF
  have HK := Lib.hid (fun w => kdelay_any hf w)
  rw [hk] at HK
  clear hk
  clear hD hB hf
  have hu := chain_way l s m t
  generalize chain l s m t = U at *
  obtain ⟨⟨u0, u1⟩, ue⟩ := U
  dsimp only at HU
  have hu' : (ue = 2 ∧ u0 = 0 ∧ u1 = 0 ∧ wrong4 l s m t = true) ∨ (wrong4 l s m t = false ∧ ((ue = 4 ∧ u0 = 0 ∧ u1 = 0 ∧ 1048576 < l + m) ∨ (ue = 0 ∧ u0 = l + m ∧ u1 = min s t ∧ l + m ≤ 1048576))) := by
    cases hu with
    | bad h => exact .inl ⟨rfl, rfl, rfl, h⟩
    | full h h1 => exact .inr ⟨h, .inl ⟨rfl, rfl, rfl, h1⟩⟩
    | good h h1 => exact .inr ⟨h, .inr ⟨rfl, rfl, rfl, h1⟩⟩
  have HU2 := Lib.hid hu'
  clear hu hu'
  go_enter Try.func3, Try.ntmps3
  go_upto_region 1 with fail
  change Code.wp _ _ _ _ (laid4 w b r l s m t)
  generalize laid4 w b r l s m t = m0 at *
  obtain ⟨⟨⟨c0, c1⟩, c2, c3⟩, c4, c5⟩ := And.intro HX.out.two.cells HX.out.ser.cells
  go_wp2_with fail
  refine (HD.out _).mono ?_
  rintro e1 w1 ⟨rfl, hb⟩
  have HY := Lib.hid (HX.out.later hb)
  clear HX HD hb c0 c1 c2 c3 c4 c5
  obtain ⟨⟨⟨c0, c1⟩, c2, c3⟩, c4, c5⟩ := And.intro HY.out.two.cells HY.out.ser.cells
  go_wp2_with fail
  refine (HB.out _).mono ?_
  rintro e1 w2 ⟨rfl, hb⟩
  have HX := Lib.hid (HY.out.later hb)
  clear HY HB hb c0 c1 c2 c3 c4 c5
  obtain ⟨⟨⟨c0, c1⟩, c2, c3⟩, c4, c5⟩ := And.intro HX.out.two.cells HX.out.ser.cells
  go_wp2_with fail
  refine (HU.out _).mono ?_
  rintro e1 w3 ⟨rfl, hb⟩
  have hl := laidS_at w3 u0 u1
  have HY := Lib.hid (And.intro ((HX.out.later hb).later hl.2.1) hl.1)
  clear HX HU hb hl c0 c1 c2 c3 c4 c5
  go_upto_region 4 with fail
  change Code.wp _ _ _ _ (laidS w3 u0 u1)
  generalize laidS w3 u0 u1 = w4 at *
  generalize w3.heap.size = g11 at *
  obtain ⟨⟨⟨c0, c1⟩, c2, c3⟩, c4, c5⟩ := And.intro HY.out.1.two.cells HY.out.1.ser.cells
  go_wp2_with fail
  refine (HF.out _).mono ?_
  rintro e1 w5 ⟨rfl, hw5⟩
  have HX := Lib.hid (And.intro (HY.out.1.alloc (.cells #[.int .i64 b, .int .i64 r, .int .i64 l, .int .i64 s] 3)) (HY.out.2.alloc (.cells #[.int .i64 b, .int .i64 r, .int .i64 l, .int .i64 s] 3)))
  rw [hw5] at HX
  clear HY HF hw5 c0 c1 c2 c3 c4 c5
  obtain ⟨⟨⟨c0, c1⟩, c2, c3⟩, c4, c5⟩ := And.intro HX.out.1.two.cells HX.out.1.ser.cells
  go_wp2_with fail
  refine (HW.out _).mono ?_
  rintro e1 w6 ⟨rfl, hb⟩
  have HY := Lib.hid (And.intro (HX.out.1.later hb) (HX.out.2.below hb))
  clear HX hb c0 c1 c2 c3 c4 c5
  obtain ⟨⟨⟨c0, c1⟩, c2, c3⟩, c4, c5⟩ := And.intro HY.out.1.two.cells HY.out.1.ser.cells
  go_wp2_with fail
  refine (HG.out _).mono ?_
  rintro e1 w7 ⟨rfl, hw7⟩
  have HX := Lib.hid (And.intro (HY.out.1.alloc (.cells #[.int .i64 l, .int .i64 s, .int .i64 m, .int .i64 t] 3)) (HY.out.2.alloc (.cells #[.int .i64 l, .int .i64 s, .int .i64 m, .int .i64 t] 3)))
  rw [hw7] at HX
  clear HY HG hw7 c0 c1 c2 c3 c4 c5
  obtain ⟨⟨⟨c0, c1⟩, c2, c3⟩, c4, c5⟩ := And.intro HX.out.1.two.cells HX.out.1.ser.cells
  obtain ⟨k0, k1⟩ := HX.out.2.cells
  rcases HU2.out with ⟨z1, z2, z3, z4⟩ | ⟨z4, ⟨z1, z2, z3, z5⟩ | ⟨z1, z2, z3, z5⟩⟩
  · subst z1 z2 z3
    rw [z4]
    clear z4 HU2
    go_wp2_with fail
    refine (HK.out _).mono ?_
    rintro e1 w8 ⟨rfl, hb⟩
    have HY := Lib.hid (HX.out.1.later hb)
    clear HX hb c0 c1 c2 c3 c4 c5 k0 k1
    obtain ⟨⟨⟨c0, c1⟩, c2, c3⟩, c4, c5⟩ := And.intro HY.out.two.cells HY.out.ser.cells
    go_wp2_with fail
    go_ret
    exact ⟨ret_bool (by simp), HY.out.two.below⟩
  · subst z1 z2 z3
    have hp := wrong4_false.1 z4
    have q3 : wrap64 (l + m) = l + m := IntWalk.wrap64_in _ (by constructor <;> omega)
    rw [z4]
    clear z4 HU2 hp
    go_wp2_with fail
    refine (HK.out _).mono ?_
    rintro e1 w8 ⟨rfl, hb⟩
    have HY := Lib.hid (HX.out.1.later hb)
    clear HX hb c0 c1 c2 c3 c4 c5 k0 k1
    obtain ⟨⟨⟨c0, c1⟩, c2, c3⟩, c4, c5⟩ := And.intro HY.out.two.cells HY.out.ser.cells
    go_wp2_with fail
    go_ret
    exact ⟨ret_bool (by simp), HY.out.two.below⟩
  · subst z1
    have hp := wrong4_false.1 z4
    have q3 : wrap64 (l + m) = u0 := by rw [IntWalk.wrap64_in _ (by constructor <;> omega)]; exact z2.symm
    have q4 : (if t < s then t else s) = u1 := by rw [z3]; split <;> omega
    have q5 : ¬ 1048576 < u0 := by omega
    rw [z4]
    clear z4 z2 z3 z5 HU2 hp
    go_wp2_with fail
    refine (HK.out _).mono ?_
    rintro e1 w8 ⟨rfl, hb⟩
    have HY := Lib.hid (HX.out.1.later hb)
    clear HX hb c0 c1 c2 c3 c4 c5 k0 k1
    obtain ⟨⟨⟨c0, c1⟩, c2, c3⟩, c4, c5⟩ := And.intro HY.out.two.cells HY.out.ser.cells
    go_wp2_with fail
    go_ret
    exact ⟨ret_bool (by simp), HY.out.two.below⟩
set_option maxRecDepth 100000 in
set_option maxHeartbeats 16000000 in
theorem bounds_ok {b r l s m t : Int} (hf : wrong4 b r l s = false) {d0 : Int} (hk : kdelay b r l s = d0) (hd0 : 0 ≤ d0) (hD : delay b r l s = (d0, 0)) (hB : backlog b r l s = ((b + r * l), 0)) (w : World) :
    Calls Try.prog 3 #[.agg #[.int .i64 b, .int .i64 r], .agg #[.int .i64 l, .int .i64 s], .agg #[.int .i64 m, .int .i64 t]] w fun e w' => e = .returned (.bool true) ∧ Below w.heap.size w w' := by
  have HX := Lib.hid (laid4_at w b r l s m t)
  have HD := Lib.hid (fun w => delay_any b r l s w)
  have HB := Lib.hid (fun w => backlog_any b r l s w)
  have HU := Lib.hid (fun w => chain_any l s m t w)
  have HF := Lib.hid (fun w => fits4 b r l s w)
  have HG := Lib.hid (fun w => fits4 l s m t w)
  have HW := Lib.hid (fun w => wrong_any b r l s w)
  rw [hD] at HD
  rw [hB] at HB
  rw [hf] at HF HW
  rw [if_neg (by decide)] at HW
  dsimp only [Bool.not_true, Bool.not_false] at HD HB HF
  have HK := Lib.hid (fun w => kdelay_any hf w)
  rw [hk] at HK
  clear hk
  have hr := wrong4_false.1 hf
  have hm0 := Int.mul_nonneg hr.2.1.1 hr.2.2.1.1
  have hm1 : r * l ≤ 1048576 * 1048576 := Int.mul_le_mul hr.2.1.2 hr.2.2.1.2 hr.2.2.1.1 (by decide)
  obtain ⟨P, hP⟩ : ∃ P, r * l = P := ⟨_, rfl⟩
  rw [hP] at hm0 hm1 HB
  have q1 : wrap64 (r * l) = P := by rw [hP]; exact IntWalk.wrap64_in _ (by constructor <;> omega)
  have q2 : wrap64 (b + P) = b + P := IntWalk.wrap64_in _ (by constructor <;> omega)
  have i0 : ¬ d0 < 0 := by omega
  clear hr hm0 hm1 hP
  clear hD hB hf
  have hu := chain_way l s m t
  generalize chain l s m t = U at *
  obtain ⟨⟨u0, u1⟩, ue⟩ := U
  dsimp only at HU
  have hu' : (ue = 2 ∧ u0 = 0 ∧ u1 = 0 ∧ wrong4 l s m t = true) ∨ (wrong4 l s m t = false ∧ ((ue = 4 ∧ u0 = 0 ∧ u1 = 0 ∧ 1048576 < l + m) ∨ (ue = 0 ∧ u0 = l + m ∧ u1 = min s t ∧ l + m ≤ 1048576))) := by
    cases hu with
    | bad h => exact .inl ⟨rfl, rfl, rfl, h⟩
    | full h h1 => exact .inr ⟨h, .inl ⟨rfl, rfl, rfl, h1⟩⟩
    | good h h1 => exact .inr ⟨h, .inr ⟨rfl, rfl, rfl, h1⟩⟩
  have HU2 := Lib.hid hu'
  clear hu hu'
  go_enter Try.func3, Try.ntmps3
  go_upto_region 1 with fail
  change Code.wp _ _ _ _ (laid4 w b r l s m t)
  generalize laid4 w b r l s m t = m0 at *
  obtain ⟨⟨⟨c0, c1⟩, c2, c3⟩, c4, c5⟩ := And.intro HX.out.two.cells HX.out.ser.cells
  go_wp2_with fail
  refine (HD.out _).mono ?_
  rintro e1 w1 ⟨rfl, hb⟩
  have HY := Lib.hid (HX.out.later hb)
  clear HX HD hb c0 c1 c2 c3 c4 c5
  obtain ⟨⟨⟨c0, c1⟩, c2, c3⟩, c4, c5⟩ := And.intro HY.out.two.cells HY.out.ser.cells
  go_wp2_with fail
  refine (HB.out _).mono ?_
  rintro e1 w2 ⟨rfl, hb⟩
  have HX := Lib.hid (HY.out.later hb)
  clear HY HB hb c0 c1 c2 c3 c4 c5
  obtain ⟨⟨⟨c0, c1⟩, c2, c3⟩, c4, c5⟩ := And.intro HX.out.two.cells HX.out.ser.cells
  go_wp2_with fail
  refine (HU.out _).mono ?_
  rintro e1 w3 ⟨rfl, hb⟩
  have hl := laidS_at w3 u0 u1
  have HY := Lib.hid (And.intro ((HX.out.later hb).later hl.2.1) hl.1)
  clear HX HU hb hl c0 c1 c2 c3 c4 c5
  go_upto_region 4 with fail
  change Code.wp _ _ _ _ (laidS w3 u0 u1)
  generalize laidS w3 u0 u1 = w4 at *
  generalize w3.heap.size = g11 at *
  obtain ⟨⟨⟨c0, c1⟩, c2, c3⟩, c4, c5⟩ := And.intro HY.out.1.two.cells HY.out.1.ser.cells
  go_wp2_with fail
  refine (HF.out _).mono ?_
  rintro e1 w5 ⟨rfl, hw5⟩
  have HX := Lib.hid (And.intro (HY.out.1.alloc (.cells #[.int .i64 b, .int .i64 r, .int .i64 l, .int .i64 s] 3)) (HY.out.2.alloc (.cells #[.int .i64 b, .int .i64 r, .int .i64 l, .int .i64 s] 3)))
  rw [hw5] at HX
  clear HY HF hw5 c0 c1 c2 c3 c4 c5
  obtain ⟨⟨⟨c0, c1⟩, c2, c3⟩, c4, c5⟩ := And.intro HX.out.1.two.cells HX.out.1.ser.cells
  go_wp2_with fail
  refine (HW.out _).mono ?_
  rintro e1 w6 ⟨rfl, hb⟩
  have HY := Lib.hid (And.intro (HX.out.1.later hb) (HX.out.2.below hb))
  clear HX hb c0 c1 c2 c3 c4 c5
  obtain ⟨⟨⟨c0, c1⟩, c2, c3⟩, c4, c5⟩ := And.intro HY.out.1.two.cells HY.out.1.ser.cells
  go_wp2_with fail
  refine (HG.out _).mono ?_
  rintro e1 w7 ⟨rfl, hw7⟩
  have HX := Lib.hid (And.intro (HY.out.1.alloc (.cells #[.int .i64 l, .int .i64 s, .int .i64 m, .int .i64 t] 3)) (HY.out.2.alloc (.cells #[.int .i64 l, .int .i64 s, .int .i64 m, .int .i64 t] 3)))
  rw [hw7] at HX
  clear HY HG hw7 c0 c1 c2 c3 c4 c5
  obtain ⟨⟨⟨c0, c1⟩, c2, c3⟩, c4, c5⟩ := And.intro HX.out.1.two.cells HX.out.1.ser.cells
  obtain ⟨k0, k1⟩ := HX.out.2.cells
  rcases HU2.out with ⟨z1, z2, z3, z4⟩ | ⟨z4, ⟨z1, z2, z3, z5⟩ | ⟨z1, z2, z3, z5⟩⟩
  · subst z1 z2 z3
    rw [z4]
    clear z4 HU2
    go_wp2_with fail
    refine (HK.out _).mono ?_
    rintro e1 w8 ⟨rfl, hb⟩
    have HY := Lib.hid (HX.out.1.later hb)
    clear HX hb c0 c1 c2 c3 c4 c5 k0 k1
    obtain ⟨⟨⟨c0, c1⟩, c2, c3⟩, c4, c5⟩ := And.intro HY.out.two.cells HY.out.ser.cells
    go_wp2_with fail
    go_ret
    exact ⟨ret_bool (by simp), HY.out.two.below⟩
  · subst z1 z2 z3
    have hp := wrong4_false.1 z4
    have q3 : wrap64 (l + m) = l + m := IntWalk.wrap64_in _ (by constructor <;> omega)
    rw [z4]
    clear z4 HU2 hp
    go_wp2_with fail
    refine (HK.out _).mono ?_
    rintro e1 w8 ⟨rfl, hb⟩
    have HY := Lib.hid (HX.out.1.later hb)
    clear HX hb c0 c1 c2 c3 c4 c5 k0 k1
    obtain ⟨⟨⟨c0, c1⟩, c2, c3⟩, c4, c5⟩ := And.intro HY.out.two.cells HY.out.ser.cells
    go_wp2_with fail
    go_ret
    exact ⟨ret_bool (by simp), HY.out.two.below⟩
  · subst z1
    have hp := wrong4_false.1 z4
    have q3 : wrap64 (l + m) = u0 := by rw [IntWalk.wrap64_in _ (by constructor <;> omega)]; exact z2.symm
    have q4 : (if t < s then t else s) = u1 := by rw [z3]; split <;> omega
    have q5 : ¬ 1048576 < u0 := by omega
    rw [z4]
    clear z4 z2 z3 z5 HU2 hp
    go_wp2_with fail
    refine (HK.out _).mono ?_
    rintro e1 w8 ⟨rfl, hb⟩
    have HY := Lib.hid (HX.out.1.later hb)
    clear HX hb c0 c1 c2 c3 c4 c5 k0 k1
    obtain ⟨⟨⟨c0, c1⟩, c2, c3⟩, c4, c5⟩ := And.intro HY.out.two.cells HY.out.ser.cells
    go_wp2_with fail
    go_ret
    exact ⟨ret_bool (by simp), HY.out.two.below⟩

theorem bounds_law (b r l s m t : Int) (w : World) :
    Calls Try.prog 3 #[.agg #[.int .i64 b, .int .i64 r], .agg #[.int .i64 l, .int .i64 s], .agg #[.int .i64 m, .int .i64 t]] w fun e w' => e = .returned (.bool true) ∧ Below w.heap.size w w' := by
  have hw := delay_way b r l s
  have hk : kdelay b r l s = if (delay b r l s).2 = 0 then (delay b r l s).1 else -1 := rfl
  have hb : backlog b r l s = if (delay b r l s).2 = 0 then (b + r * l, 0) else (0, (delay b r l s).2) := rfl
  obtain ⟨D, hD⟩ : ∃ D, delay b r l s = D := ⟨_, rfl⟩
  rw [hD] at hw hk hb
  cases hw with
  | bad h => exact bounds_bad h hD hb w
  | zero h h0 => exact bounds_ok h hk (by decide) hD hb w
  | none h h0 h1 => exact bounds_none h hk hD hb w
  | some h h0 h1 h2 => exact bounds_ok h hk (late_nonneg h h0 h1) hD hb w
end Go.Proofs.Ytdlmiiekcpbdcaa
