/- The keep laws' alive14. -/
import Derived.Test.YtgphbplmkegdeaaDl1
namespace Go.Proofs.Ytgphbplmkegdeaa
open Go.RowKit Go.Maps

theorem ints_laid (w : World) (xs : List Int) (h : xs.length * 8 ≤ 281474976710656) : IntsIn (w.alloc (.cells (i64s xs).toArray 3)) (some ⟨w.heap.size, 0, none⟩) xs :=
  ⟨fun _ => ⟨w.heap.size, 0, rfl, by simp, fun j x hx => by
    rw [Nat.zero_add, cell_of_row _ _ j _ _ _ (heap_alloc_new w _), ← i64s_at hx]
    simp⟩, h⟩
theorem lists_laid {w : World} {A B : Option Addr} {f g : List Int} (hf : IntsIn w A f) (hg : IntsIn w B g) (c d : Nat) (hc : f.length ≤ c) (hd : g.length ≤ d) : ListsIn (w.alloc (.cells #[.slice A f.length c, .slice B g.length d] 22)) (some ⟨w.heap.size, 0, none⟩) [f, g] := by
  have bo : Below w.heap.size w (w.alloc (.cells #[.slice A f.length c, .slice B g.length d] 22)) := (Below.refl _ _).alloc (Nat.le_refl _) _
  refine ⟨fun _ => ⟨w.heap.size, 0, rfl, by simp, fun j x hx => ?_⟩, by simp⟩
  rw [Nat.zero_add]
  match j, hx with
  | 0, hx =>
    simp only [List.getElem?_cons_zero, Option.some.injEq] at hx
    subst hx
    exact ⟨A, c, cell_of_row _ _ 0 _ _ _ (heap_alloc_new w _), hf.below bo, hc⟩
  | 1, hx =>
    simp only [List.getElem?_cons_succ, List.getElem?_cons_zero, Option.some.injEq] at hx
    subst hx
    exact ⟨B, d, cell_of_row _ _ 1 _ _ _ (heap_alloc_new w _), hg.below bo, hd⟩
  | _ + 2, hx => simp at hx
/-- Two rows of packets, one behind the other. -/
def laidP (w : World) (xs ys : List Int) : World := ((w.alloc (.cells (i64s xs).toArray 3)).alloc (.cells (i64s ys).toArray 3)).alloc (.cells #[.slice (some ⟨w.heap.size, 0, none⟩) xs.length xs.length, .slice (some ⟨w.heap.size + 1, 0, none⟩) ys.length ys.length] 22)
theorem laidP_at (w : World) (xs ys : List Int) (hx : xs.length * 8 ≤ 281474976710656) (hy : ys.length * 8 ≤ 281474976710656) : ListsIn (laidP w xs ys) (some ⟨w.heap.size + 1 + 1, 0, none⟩) [xs, ys] ∧ Below w.heap.size w (laidP w xs ys) := by
  have h1 := ints_laid w xs hx
  have h2 := ints_laid (w.alloc (.cells (i64s xs).toArray 3)) ys hy
  have s1 : (w.alloc (.cells (i64s xs).toArray 3)).heap.size = w.heap.size + 1 := by simp
  have b1 : Below w.heap.size w (w.alloc (.cells (i64s xs).toArray 3)) := (Below.refl _ _).alloc (Nat.le_refl _) _
  have b2 : Below (w.heap.size + 1) (w.alloc (.cells (i64s xs).toArray 3)) ((w.alloc (.cells (i64s xs).toArray 3)).alloc (.cells (i64s ys).toArray 3)) := (Below.refl _ _).alloc (by rw [s1]; exact Nat.le_refl _) _
  have s2 : ((w.alloc (.cells (i64s xs).toArray 3)).alloc (.cells (i64s ys).toArray 3)).heap.size = w.heap.size + 1 + 1 := by simp
  rw [s1] at h2
  have h3 := lists_laid (h1.below (by rw [s1]; exact b2)) h2 xs.length ys.length (Nat.le_refl _) (Nat.le_refl _)
  rw [s2] at h3
  exact ⟨h3, (b1.trans (b2.mono (by omega))).alloc (by rw [s2]; omega) _⟩
def laid14 (w : World) : World := (((w.alloc (.cells (i64s [500, 600]).toArray 3)).alloc (.cells (i64s [300, 300]).toArray 3)).alloc (.cells (i64s [700]).toArray 3)).alloc (.cells #[.slice (some ⟨w.heap.size + 1, 0, none⟩) 2 2, .slice (some ⟨w.heap.size + 1 + 1, 0, none⟩) 1 1] 22)
theorem laid14_eq (w : World) : laid14 w = laidP (w.alloc (.cells (i64s [500, 600]).toArray 3)) [300, 300] [700] := by
  unfold laid14 laidP
  rw [show (w.alloc (.cells (i64s [500, 600]).toArray 3)).heap.size = w.heap.size + 1 by simp]
  rfl
theorem laid14_at (w : World) : IntsIn (laid14 w) (some ⟨w.heap.size, 0, none⟩) [500, 600] ∧ ListsIn (laid14 w) (some ⟨w.heap.size + 1 + 1 + 1, 0, none⟩) [[300, 300], [700]] ∧ Below w.heap.size w (laid14 w) := by
  have h1 := ints_laid w [500, 600] (by decide)
  have b1 : Below w.heap.size w (w.alloc (.cells (i64s [500, 600]).toArray 3)) := (Below.refl _ _).alloc (Nat.le_refl _) _
  have s1 : (w.alloc (.cells (i64s [500, 600]).toArray 3)).heap.size = w.heap.size + 1 := by simp
  have h2 := laidP_at (w.alloc (.cells (i64s [500, 600]).toArray 3)) [300, 300] [700] (by decide) (by decide)
  rw [s1] at h2
  rw [laid14_eq]
  exact ⟨h1.below (by rw [s1]; exact h2.2), h2.1, b1.trans (h2.2.mono (by omega))⟩
theorem rounds14 : roundsOf [500, 600] [[300, 300], [700]] 1 = ([(0, 300)], [[300], [700]], [200, 600], 0) := by decide
theorem eqS_lit {W : World} {A : Option Addr} (h : SentIn W A [(0, 300)]) (c : Nat) :
    Calls Try.prog 16 #[.slice A 1 c, .slice (some ⟨W.heap.size, 0, none⟩) 1 1] (W.alloc (.cells #[.int .i64 0, .int .i64 300] 35)) fun e w' => e = .returned (.bool true) ∧ Below W.heap.size W w' := by
  have bo : Below W.heap.size W (W.alloc (.cells (sns [(0, 300)]).toArray 35)) := (Below.refl _ _).alloc (Nat.le_refl _) _
  refine (equal_sents (h.below bo) (sns_laid W [(0, 300)]) c 1 (by decide)).mono ?_
  rintro e w' ⟨rfl, k, rfl⟩
  exact ⟨ret_bool (decide_eq_true rfl), below_drewN bo k⟩
theorem eqI_lit {W : World} {A : Option Addr} (h : IntsIn W A [200, 600]) (c : Nat) :
    Calls Try.prog 18 #[.slice A 2 c, .slice (some ⟨W.heap.size, 0, none⟩) 2 2] (W.alloc (.cells #[.int .i64 200, .int .i64 600] 3)) fun e w' => e = .returned (.bool true) ∧ Below W.heap.size W w' := by
  have bo : Below W.heap.size W (W.alloc (.cells (i64s [200, 600]).toArray 3)) := (Below.refl _ _).alloc (Nat.le_refl _) _
  refine (equal_any (h.below bo) (ints_laid W [200, 600] (by decide)) c 2).mono ?_
  rintro e w' ⟨rfl, k, rfl⟩
  exact ⟨ret_bool (decide_eq_true rfl), below_drewN bo k⟩
theorem eqL_lit {W : World} {A : Option Addr} (h : ListsIn W A [[300], [700]]) (c : Nat) :
    Calls Try.prog 17 #[.slice A 2 c, .slice (some ⟨W.heap.size + 1 + 1, 0, none⟩) 2 2] (laidP W [300] [700]) fun e w' => e = .returned (.bool true) ∧ Below W.heap.size W w' := by
  have hp := laidP_at W [300] [700] (by decide) (by decide)
  refine (same_lists (h.below hp.2) hp.1 c 2).mono ?_
  rintro e w' ⟨rfl, k, rfl⟩
  exact ⟨rfl, below_drewN hp.2 k⟩

set_option maxRecDepth 100000 in
set_option maxHeartbeats 8000000 in
theorem alive14_any (w : World) : Calls Try.prog 20 #[] w fun e w' => e = .returned (.bool true) ∧ Below w.heap.size w w' := by
  have HE := Lib.hid (rounds_any (laid14_at w).1 (laid14_at w).2.1 2 2 1)
  have HA := Lib.hid (laid14_at w).2.2
  rw [rounds14] at HE
  unfold Out at HE
  simp only [List.length_cons, List.length_nil, Nat.zero_add, Nat.reduceAdd] at HE
  go_enter Try.func20, Try.ntmps20
  go_wp2_with fail
  change Calls _ _ _ (laid14 w) _
  refine HE.out.mono ?_
  rintro e w1 ⟨A, cA, B, cB, D, cD, rfl, hS, hL, hC, hb, -⟩
  have H1 := Lib.hid (And.intro hS (And.intro hL (And.intro hC (HA.out.trans (hb.mono HA.out.size)))))
  clear hS hL hC hb HE HA
  have HL := Lib.hid (eqS_lit H1.out.1 cA)
  go_wp2_with fail
  refine HL.out.mono ?_
  rintro e w2 ⟨rfl, hb⟩
  have H2 := Lib.hid (And.intro (H1.out.2.1.below hb) (And.intro (H1.out.2.2.1.below hb) (H1.out.2.2.2.trans (hb.mono H1.out.2.2.2.size))))
  clear hb H1 HL
  have HL := Lib.hid (eqL_lit H2.out.1 cB)
  go_wp2_with fail
  change Calls _ _ _ (laidP w2 [300] [700]) _
  refine HL.out.mono ?_
  rintro e w3 ⟨rfl, hb⟩
  have H3 := Lib.hid (And.intro (H2.out.2.1.below hb) (H2.out.2.2.trans (hb.mono H2.out.2.2.size)))
  clear hb H2 HL
  have HL := Lib.hid (eqI_lit H3.out.1 cD)
  go_wp2_with fail
  refine HL.out.mono ?_
  rintro e w4 ⟨rfl, hb⟩
  have H4 := Lib.hid (H3.out.2.trans (hb.mono H3.out.2.size))
  clear hb H3 HL
  go_wp2_with fail
  go_ret
  exact ⟨rfl, H4.out⟩
end Go.Proofs.Ytgphbplmkegdeaa
