/- Package gps: End, Order and Whole of whatever arguments; alive13. -/
import Derived.Test.YtemoleopabddnaaGp5
import Derived.Test.YtemoleopabddnaaIn3a
namespace Go.Proofs.Ytemoleopabddnaa
open Go.RowKit Go.Maps

/-- What End answers: a list and an error. -/
def endOf (xs ys : List Int) : List Int × Int := if wrongL xs ys = 0 then (ends xs ys, 0) else ([], wrongL xs ys)
theorem end_way (xs ys : List Int) : ((wrongL xs ys = 1 ∨ wrongL xs ys = 2) ∧ endOf xs ys = ([], wrongL xs ys)) ∨ (wrongL xs ys = 0 ∧ Right xs ys ∧ endOf xs ys = (ends xs ys, 0)) := by
  unfold endOf
  rcases wrongL_way xs ys with ⟨h, _⟩ | ⟨h, _⟩ | ⟨h, hR⟩
  · rw [if_neg (by omega)]; exact .inl ⟨.inl h, rfl⟩
  · rw [if_neg (by omega)]; exact .inl ⟨.inr h, rfl⟩
  · rw [if_pos h]; exact .inr ⟨h, hR, rfl⟩
theorem end_any {w : World} {A B : Option Addr} {xs ys : List Int} (hx : IntsIn w A xs) (hy : IntsIn w B ys) (cx cy : Nat) :
    Calls Try.prog 9 #[.slice A xs.length cx, .slice B ys.length cy] w (Got w (endOf xs ys).1 (endOf xs ys).2) := by
  rcases end_way xs ys with ⟨h, e⟩ | ⟨h, hR, e⟩
  · rw [e]; exact end_no hx hy rfl h cx cy
  · rw [e]; exact end_ok hx hy hR h cx cy

theorem ints_laid (w : World) (xs : List Int) (h : xs.length * 8 ≤ 281474976710656) : IntsIn (w.alloc (.cells (i64s xs).toArray 3)) (some ⟨w.heap.size, 0, none⟩) xs :=
  ⟨fun _ => ⟨w.heap.size, 0, rfl, by simp, fun j x hx => by
    rw [Nat.zero_add, cell_of_row _ _ j _ _ _ (heap_alloc_new w _), ← i64s_at hx]
    simp⟩, h⟩
def laid13 (w : World) : World := (w.alloc (.cells (i64s [6, 2, 0]).toArray 3)).alloc (.cells (i64s [1, 2, 1]).toArray 3)
theorem laid13_at (w : World) : IntsIn (laid13 w) (some ⟨w.heap.size, 0, none⟩) [6, 2, 0] ∧ IntsIn (laid13 w) (some ⟨w.heap.size + 1, 0, none⟩) [1, 2, 1] ∧ Below w.heap.size w (laid13 w) := by
  have h1 := ints_laid w [6, 2, 0] (by decide)
  have h2 := ints_laid (w.alloc (.cells (i64s [6, 2, 0]).toArray 3)) [1, 2, 1] (by decide)
  have hs : (w.alloc (.cells (i64s [6, 2, 0]).toArray 3)).heap.size = w.heap.size + 1 := by simp
  have b1 : Below w.heap.size w (w.alloc (.cells (i64s [6, 2, 0]).toArray 3)) := (Below.refl _ _).alloc (Nat.le_refl _) _
  have b2 : Below (w.heap.size + 1) (w.alloc (.cells (i64s [6, 2, 0]).toArray 3)) (laid13 w) := (Below.refl _ _).alloc (by rw [hs]; exact Nat.le_refl _) _
  rw [hs] at h2
  exact ⟨h1.below (by rw [hs]; exact b2), h2, b1.trans (b2.mono (by omega))⟩
theorem right13 : Right [6, 2, 0] [1, 2, 1] := ⟨rfl, by decide, by decide, by decide⟩
theorem srt13 {o : Nat → Nat} (h : Srt [6, 2, 0] [1, 2, 1] 3 o) : o 0 = 2 ∧ o 1 = 1 ∧ o 2 = 0 := by
  have key : ∀ i, i < 3 → ∀ j, j < 3 → Sooner [6, 2, 0] [1, 2, 1] i j → j < i := by
    unfold Sooner
    decide
  have l0 := h.low 0 (by decide)
  have l1 := h.low 1 (by decide)
  have l2 := h.low 2 (by decide)
  have k1 := key _ l0 _ l1 (h.inc 0 1 (by decide) (by decide))
  have k2 := key _ l1 _ l2 (h.inc 1 2 (by decide) (by decide))
  omega
theorem range3 (h : Nat → Int) : (List.range 3).map h = [h 0, h 1, h 2] := rfl
theorem places13 {o : Nat → Nat} (h : Srt [6, 2, 0] [1, 2, 1] 3 o) : places o 3 = [2, 1, 0] := by
  obtain ⟨h0, h1, h2⟩ := srt13 h
  show [((o 0 : Nat) : Int), ((o 1 : Nat) : Int), ((o 2 : Nat) : Int)] = _
  rw [h0, h1, h2]
  rfl
theorem whole13 {o : Nat → Nat} {h : Nat → Int} (hs : Srt [6, 2, 0] [1, 2, 1] 3 o) (hh : ∀ p, p < 3 → h (o p) = su (fun q => fn [6, 2, 0] (o q)) (p + 1)) : (List.range 3).map h = [8, 2, 0] := by
  obtain ⟨h0, h1, h2⟩ := srt13 hs
  have e0 := hh 0 (by decide)
  have e1 := hh 1 (by decide)
  have e2 := hh 2 (by decide)
  simp only [su_succ, su_zero, h0, h1, h2] at e0 e1 e2
  rw [range3, e0, e1, e2]
  rfl
theorem ends13 : endOf [6, 2, 0] [1, 2, 1] = ([8, 6, 0], 0) := by decide
theorem equal_lit {W : World} {A : Option Addr} {a b c : Int} (h : IntsIn W A [a, b, c]) (cA : Nat) :
    Calls Try.prog 34 #[.slice A 3 cA, .slice (some ⟨W.heap.size, 0, none⟩) 3 3] (W.alloc (.cells #[.int .i64 a, .int .i64 b, .int .i64 c] 3)) fun e w' => e = .returned (.bool true) ∧ Below W.heap.size W w' := by
  have bo : Below W.heap.size W (W.alloc (.cells (i64s [a, b, c]).toArray 3)) := (Below.refl _ _).alloc (Nat.le_refl _) _
  refine (equal_any (h.below bo) (ints_laid W [a, b, c] (by simp)) cA 3).mono ?_
  rintro e w' ⟨rfl, k, rfl⟩
  exact ⟨ret_bool (decide_eq_true rfl), below_drewN bo k⟩

set_option maxRecDepth 100000 in
set_option maxHeartbeats 8000000 in
theorem alive13_any (w : World) : Calls Try.prog 17 #[] w fun e w' => e = .returned (.bool true) ∧ Below w.heap.size w w' := by
  have HE := Lib.hid (fun W => end_any (laid13_at W).1 (laid13_at W).2.1 3 3)
  have HO := Lib.hid (fun W => order_ok (laid13_at W).1 (laid13_at W).2.1 right13 (by decide) 3 3)
  have HH := Lib.hid (fun W => whole_ok (laid13_at W).1 (laid13_at W).2.1 right13 (by decide) 3 3)
  have HA := Lib.hid laid13_at
  rw [ends13] at HE
  unfold Got at HE
  unfold Ordered Got at HO
  unfold Wholed Got at HH
  simp only [List.length_cons, List.length_nil, Nat.zero_add, Nat.reduceAdd] at HE HO HH
  go_enter Try.func17, Try.ntmps17
  go_wp2_with fail
  change Calls _ _ _ (laid13 w) _
  refine (HE.out _).mono ?_
  rintro e w1 ⟨R, cR, rfl, hR, hb⟩
  have H1 := Lib.hid (And.intro hR ((HA.out w).2.2.trans (hb.mono (HA.out w).2.2.size)))
  clear hR hb HE
  go_wp2_with fail
  change Calls _ _ _ (laid13 w1) _
  refine (HO.out _).mono ?_
  rintro e w2 ⟨o, hs, Q, cQ, rfl, hQ, hb⟩
  rw [places13 hs] at hQ ⊢
  have hb2 := (HA.out w1).2.2.trans (hb.mono (HA.out w1).2.2.size)
  have H2 := Lib.hid (And.intro (H1.out.1.below hb2) (And.intro hQ (H1.out.2.trans (hb2.mono H1.out.2.size))))
  clear hs hQ hb hb2 H1 HO
  go_wp2_with fail
  change Calls _ _ _ (laid13 w2) _
  refine (HH.out _).mono ?_
  rintro e w3 ⟨o, h, hs, hh, P, cP, rfl, hP, hb⟩
  rw [whole13 hs hh] at hP ⊢
  have hb2 := (HA.out w2).2.2.trans (hb.mono (HA.out w2).2.2.size)
  have H3 := Lib.hid (And.intro (H2.out.1.below hb2) (And.intro (H2.out.2.1.below hb2) (And.intro hP (H2.out.2.2.trans (hb2.mono H2.out.2.2.size)))))
  clear hs hh hP hb hb2 H2 HH HA
  have HL := Lib.hid (equal_lit H3.out.1 cR)
  go_wp2_with fail
  refine HL.out.mono ?_
  rintro e w4 ⟨rfl, hb⟩
  have H4 := Lib.hid (And.intro (H3.out.2.1.below hb) (And.intro (H3.out.2.2.1.below hb) (H3.out.2.2.2.trans (hb.mono H3.out.2.2.2.size))))
  clear hb H3 HL
  have HL := Lib.hid (equal_lit H4.out.1 cQ)
  go_wp2_with fail
  refine HL.out.mono ?_
  rintro e w5 ⟨rfl, hb⟩
  have H5 := Lib.hid (And.intro (H4.out.2.1.below hb) (H4.out.2.2.trans (hb.mono H4.out.2.2.size)))
  clear hb H4 HL
  have HL := Lib.hid (equal_lit H5.out.1 cP)
  go_wp2_with fail
  refine HL.out.mono ?_
  rintro e w6 ⟨rfl, hb⟩
  have H6 := Lib.hid (H5.out.2.trans (hb.mono H5.out.2.size))
  clear hb H5 HL
  go_wp2_with fail
  go_ret
  exact ⟨rfl, H6.out⟩
end Go.Proofs.Ytemoleopabddnaa
