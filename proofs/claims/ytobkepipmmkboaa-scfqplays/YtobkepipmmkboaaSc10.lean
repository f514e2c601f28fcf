/- Package scfq: Play of whatever arguments; the keep laws' alive15. -/
import Derived.Test.YtobkepipmmkboaaSc9
import Derived.Test.YtobkepipmmkboaaIn3a
namespace Go.Proofs.Ytobkepipmmkboaa
open Go.RowKit Go.Maps

/-- What is wrong with Play's arguments. -/
def playErr (xs : List Int) (os : List (Int × Int × Int)) : Int := if wrongL xs ≠ 0 then wrongL xs else if os.length ≤ 400 then 0 else 2
def playE (xs : List Int) (os : List (Int × Int × Int)) : List Int := if playErr xs os = 0 then (scRun (uW xs) xs.length os).errs else []
def playS (xs : List Int) (os : List (Int × Int × Int)) : List (Nat × Int) := if playErr xs os = 0 then (scRun (uW xs) xs.length os).sent else []
def playL (xs : List Int) (os : List (Int × Int × Int)) : List Int := if playErr xs os = 0 then leftL xs.length (scRun (uW xs) xs.length os).st else []
theorem play_way (xs : List Int) (os : List (Int × Int × Int)) : (playErr xs os = 2 ∧ playE xs os = [] ∧ playS xs os = [] ∧ playL xs os = []) ∨ (playErr xs os = 0 ∧ Right xs ∧ os.length ≤ 400 ∧ playE xs os = (scRun (uW xs) xs.length os).errs ∧ playS xs os = (scRun (uW xs) xs.length os).sent ∧ playL xs os = leftL xs.length (scRun (uW xs) xs.length os).st) := by
  unfold playE playS playL
  rcases wrongL_way xs with h | ⟨h, hR⟩
  · have e : playErr xs os = 2 := by unfold playErr; rw [if_pos (by omega), h]
    rw [if_neg (by omega), if_neg (by omega), if_neg (by omega)]
    exact .inl ⟨e, rfl, rfl, rfl⟩
  · by_cases c : os.length ≤ 400
    · have e : playErr xs os = 0 := by unfold playErr; rw [if_neg (by omega), if_pos c]
      rw [if_pos e, if_pos e, if_pos e]
      exact .inr ⟨e, hR, c, rfl, rfl, rfl⟩
    · have e : playErr xs os = 2 := by unfold playErr; rw [if_neg (by omega), if_neg c]
      rw [if_neg (by omega), if_neg (by omega), if_neg (by omega)]
      exact .inl ⟨e, rfl, rfl, rfl⟩
set_option maxHeartbeats 4000000 in
theorem play_any {w : World} {P Q : Option Addr} {xs : List Int} {os : List (Int × Int × Int)} (hx : IntsIn w P xs) (hy : ThreeIn w Q os) (cx cy : Nat) :
    Calls Try.prog 7 #[.slice P xs.length cx, .slice Q os.length cy] w (Out w (playE xs os) (playS xs os) (playL xs os) (playErr xs os)) := by
  rcases play_way xs os with ⟨h, e1, e2, e3⟩ | ⟨h, hR, hm, e1, e2, e3⟩
  · rw [h, e1, e2, e3]
    have HW := Lib.hid (wrong_any hx cx)
    have HZ := Lib.hid (out_empty (err := 2) (Below.refl w.heap.size w))
    generalize Out w [] [] [] 2 = D at *
    unfold playErr at h
    by_cases c : wrongL xs ≠ 0
    · rw [if_pos c] at h
      rw [h] at HW
      clear hx hy h e1 e2 e3 c
      generalize xs.length = n at *
      generalize os.length = m at *
      go_enter Try.func7, Try.ntmps7
      go_wp2_with fail
      refine HW.out.mono ?_
      rintro e w1 ⟨rfl, rfl⟩
      go_wp2_with fail
      exact bodyPost_ret (results_four 4 5 6 7 rfl _ _) rfl HZ.out
    · rw [if_neg c] at h
      have hd : decide (400 < (os.length : Int)) = true := by
        refine decide_eq_true ?_
        by_cases d : os.length ≤ 400
        · rw [if_pos d] at h
          exact absurd h (by decide)
        · omega
      rw [show wrongL xs = 0 by omega] at HW
      clear hx hy h e1 e2 e3 c
      generalize xs.length = n at *
      generalize os.length = m at *
      go_enter Try.func7, Try.ntmps7
      go_wp2_with fail
      refine HW.out.mono ?_
      rintro e w1 ⟨rfl, rfl⟩
      go_wp2_with fail
      exact bodyPost_ret (results_four 4 5 6 7 rfl _ _) rfl HZ.out
  · rw [h, e1, e2, e3]
    exact play_ok hx hy hR hm cx cy

/-! ### the keep laws' example -/
theorem ints_laid (w : World) (xs : List Int) (h : xs.length * 8 ≤ 281474976710656) : IntsIn (w.alloc (.cells (i64s xs).toArray 3)) (some ⟨w.heap.size, 0, none⟩) xs :=
  ⟨fun _ => ⟨w.heap.size, 0, rfl, by simp, fun j x hx => by
    rw [Nat.zero_add, cell_of_row _ _ j _ _ _ (heap_alloc_new w _), ← i64s_at hx]
    simp⟩, h⟩
def ops15 : List (Int × Int × Int) := [(1, 0, 100), (1, 1, 150), (1, 1, 60), (2, 0, 0), (2, 0, 0), (2, 0, 0), (2, 0, 0)]
def laid15 (w : World) : World := (w.alloc (.cells (i64s [1, 2]).toArray 3)).alloc (.cells (ths ops15).toArray 40)
theorem laid15_at (w : World) : IntsIn (laid15 w) (some ⟨w.heap.size, 0, none⟩) [1, 2] ∧ ThreeIn (laid15 w) (some ⟨w.heap.size + 1, 0, none⟩) ops15 ∧ Below w.heap.size w (laid15 w) := by
  have h1 := ints_laid w [1, 2] (by decide)
  have s1 : (w.alloc (.cells (i64s [1, 2]).toArray 3)).heap.size = w.heap.size + 1 := by simp
  have b1 : Below w.heap.size w (w.alloc (.cells (i64s [1, 2]).toArray 3)) := (Below.refl _ _).alloc (Nat.le_refl _) _
  have b2 : Below (w.heap.size + 1) (w.alloc (.cells (i64s [1, 2]).toArray 3)) (laid15 w) := (Below.refl _ _).alloc (by rw [s1]; exact Nat.le_refl _) _
  have h2 := ths_laid (w.alloc (.cells (i64s [1, 2]).toArray 3)) 40 ops15
  rw [s1] at h2
  exact ⟨h1.below (by rw [s1]; exact b2), h2, b1.trans (b2.mono (by omega))⟩
theorem play15 : playE [1, 2] ops15 = [0, 0, 0, 0, 0, 0, 3] ∧ playS [1, 2] ops15 = [(1, 150), (0, 100), (1, 60)] ∧ playL [1, 2] ops15 = [0, 0] ∧ playErr [1, 2] ops15 = 0 := by decide
theorem eqS_lit {W : World} {A : Option Addr} (h : SentIn W A [(1, 150), (0, 100), (1, 60)]) (c : Nat) :
    Calls Try.prog 12 #[.slice A 3 c, .slice (some ⟨W.heap.size, 0, none⟩) 3 3] (W.alloc (.cells #[.int .i64 1, .int .i64 150, .int .i64 0, .int .i64 100, .int .i64 1, .int .i64 60] 35)) fun e w' => e = .returned (.bool true) ∧ Below W.heap.size W w' := by
  have bo : Below W.heap.size W (W.alloc (.cells (sns [(1, 150), (0, 100), (1, 60)]).toArray 35)) := (Below.refl _ _).alloc (Nat.le_refl _) _
  refine (equal_sents (h.below bo) (sns_laid W [(1, 150), (0, 100), (1, 60)]) c 3 (by decide)).mono ?_
  rintro e w' ⟨rfl, k, rfl⟩
  exact ⟨ret_bool (decide_eq_true rfl), below_drewN bo k⟩
theorem eqI_lit {W : World} {A : Option Addr} (h : IntsIn W A [0, 0]) (c : Nat) :
    Calls Try.prog 13 #[.slice A 2 c, .slice (some ⟨W.heap.size, 0, none⟩) 2 2] (W.alloc (.cells #[.int .i64 0, .int .i64 0] 3)) fun e w' => e = .returned (.bool true) ∧ Below W.heap.size W w' := by
  have bo : Below W.heap.size W (W.alloc (.cells (i64s [0, 0]).toArray 3)) := (Below.refl _ _).alloc (Nat.le_refl _) _
  refine (equal_any (h.below bo) (ints_laid W [0, 0] (by decide)) c 2).mono ?_
  rintro e w' ⟨rfl, k, rfl⟩
  exact ⟨ret_bool (decide_eq_true rfl), below_drewN bo k⟩
set_option maxRecDepth 100000 in
set_option maxHeartbeats 8000000 in
theorem alive15_any (w : World) : Calls Try.prog 14 #[] w fun e w' => e = .returned (.bool true) ∧ Below w.heap.size w w' := by
  have HE := Lib.hid (play_any (laid15_at w).1 (laid15_at w).2.1 2 7)
  have HA := Lib.hid (laid15_at w).2.2
  rw [play15.1, play15.2.1, play15.2.2.1, play15.2.2.2] at HE
  unfold Out at HE
  rw [show ops15.length = 7 from rfl] at HE
  simp only [List.length_cons, List.length_nil, Nat.zero_add, Nat.reduceAdd] at HE
  go_enter Try.func14, Try.ntmps14
  go_wp2_with fail
  change Calls _ _ _ (laid15 w) _
  refine HE.out.mono ?_
  rintro e w1 ⟨A, cA, B, cB, D, cD, rfl, hE, hS, hL, hb⟩
  obtain ⟨ga, oa, rfl, la, hc⟩ := hE.at_ (by simp)
  have x6 := hc 6 3 rfl
  have H1 := Lib.hid (And.intro hS (And.intro hL (HA.out.trans (hb.mono HA.out.size))))
  clear hE hS hL hb HE HA hc
  have HL := Lib.hid (eqS_lit H1.out.1 cB)
  go_wp2_with fail
  refine HL.out.mono ?_
  rintro e w2 ⟨rfl, hb⟩
  have H2 := Lib.hid (And.intro (H1.out.2.1.below hb) (H1.out.2.2.trans (hb.mono H1.out.2.2.size)))
  clear hb H1 HL x6 la
  have HL := Lib.hid (eqI_lit H2.out.1 cD)
  go_wp2_with fail
  refine HL.out.mono ?_
  rintro e w4 ⟨rfl, hb⟩
  have H4 := Lib.hid (H2.out.2.trans (hb.mono H2.out.2.size))
  clear hb H2 HL
  go_wp2_with fail
  go_ret
  exact ⟨rfl, H4.out⟩
end Go.Proofs.Ytobkepipmmkboaa
