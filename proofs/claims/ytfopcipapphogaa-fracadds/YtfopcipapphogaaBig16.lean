/- The reference's ABig: a contract. -/
import Derived.Test.YtfopcipapphogaaBig15
import Derived.Test.YtfopcipapphogaaAtW
import Derived.Deep.RegionHeld3
namespace Go.Proofs.Ytfopcipapphogaa
open Go.RowKit

theorem lsh64 (gz gx : Nat) (x : Int) (w : World) (hz : Room w gz) (hx : IntAt w gx x) (hv : Fits (x * 2 ^ 64).natAbs) :
    Calls Try.prog 51 #[.pointer (some ⟨gz, 0, none⟩), .pointer (some ⟨gx, 0, none⟩), .int .u64 64] w fun e w' =>
      e = .returned (.pointer (some ⟨gz, 0, none⟩)) ∧ w.grownBy w' (some gz) ∧ IntAt w' gz (x * 2 ^ 64) := lsh_int gz gx x 64 w hz hx (by decide) hv
theorem lsh128 (gz gx : Nat) (x : Int) (w : World) (hz : Room w gz) (hx : IntAt w gx x) (hv : Fits (x * 2 ^ 128).natAbs) :
    Calls Try.prog 51 #[.pointer (some ⟨gz, 0, none⟩), .pointer (some ⟨gx, 0, none⟩), .int .u64 128] w fun e w' =>
      e = .returned (.pointer (some ⟨gz, 0, none⟩)) ∧ w.grownBy w' (some gz) ∧ IntAt w' gz (x * 2 ^ 128) := lsh_int gz gx x 128 w hz hx (by decide) hv
theorem rsh64 (gz gx : Nat) (X : Nat) (w : World) (hz : Room w gz) (hx : IntAt w gx X) :
    Calls Try.prog 57 #[.pointer (some ⟨gz, 0, none⟩), .pointer (some ⟨gx, 0, none⟩), .int .u64 64] w fun e w' =>
      e = .returned (.pointer (some ⟨gz, 0, none⟩)) ∧ w.grownBy w' (some gz) ∧ IntAt w' gz (X / 18446744073709551616 : Nat) := rsh_int gz gx X 64 w hz hx (by decide)
theorem newInt1 (w : World) : Calls Try.prog 54 #[.int .i64 1] w (NewInt w 1) := newInt_any 1 w (by decide)
theorem setMask (g : Nat) (w : World) (hr : Room w g) :
    Calls Try.prog 50 #[.pointer (some ⟨g, 0, none⟩), .int .u64 18446744073709551615] w fun e w' => e = .returned (.pointer (some ⟨g, 0, none⟩)) ∧ w.grownBy w' (some g) ∧ IntAt w' g (18446744073709551615 : Nat) := setU_any g 18446744073709551615 w hr (by decide)

set_option maxRecDepth 100000 in
set_option maxHeartbeats 1000000 in
theorem abig_any (h l : Nat) (w : World) (hh : h < 18446744073709551616) (hl : l < 18446744073709551616) :
    Calls Try.prog 11 #[.agg #[.int .u64 h, .int .u64 l]] w (NewInt w (h * 18446744073709551616 + l : Nat)) := by
  obtain ⟨W0, hW0⟩ : ∃ W, w.alloc (.cells #[.int .u64 h, .int .u64 l] 24) = W := ⟨_, rfl⟩
  have HP : At W0 w.heap.size h l := hW0 ▸ At.new w h l
  have HB : Below w.heap.size w W0 := hW0 ▸ (Below.refl _ _).alloc (Nat.le_refl _) _
  have hsz : w.heap.size + 1 = W0.heap.size := by rw [← hW0]; simp
  have HW := Lib.hid hW0
  clear hW0
  go_enter Try.func11, Try.ntmps11
  go_wp2_with fail
  rw [HW.out]
  with_reducible refine (setU_any W0.heap.size h _ (room_new W0) hh).mono ?_
  rintro e w1 ⟨rfl, g1, i1⟩
  have B1 : Below W0.heap.size W0 w1 := below_of_grown ((Below.refl _ _).alloc (Nat.le_refl _) _) g1 (Nat.le_refl _)
  have P1 := HP.below B1
  obtain ⟨p1, q1, r1, f1, k1⟩ := id P1
  go_wp2_with fail
  have HC : ∀ W', Below W0.heap.size W0 W' → W'.cell? ⟨w.heap.size, 1, none⟩ = some (.int .u64 l) := fun W' hb => (HP.below hb).2.1
  have hv : Fits ((h : Int) * 2 ^ 64).natAbs := Fits.of (k := 4) (by omega) (by decide)
  have hv2 : Fits ((h : Int) * 2 ^ 64 + l).natAbs := Fits.of (k := 4) (by omega) (by decide)
  have D1 : Below W0.heap.size W0 w1.drew := below_drewN B1 1
  have j1 : IntAt w1.drew W0.heap.size h := i1.drewN 1
  have s1 := B1.size
  obtain ⟨V, hV⟩ : ∃ V, w1.drew = V := ⟨_, rfl⟩
  refine wp_region_held_drew (S := (fun w' => w'.cell? ⟨w.heap.size, 1, none⟩ = some (.int .u64 l))) (by kernel_rfl) (HC _ D1) (fun hHeld => ?_)
  rw [hV] at D1 j1 hHeld ⊢
  have s2 := D1.size
  refine wpAnyH_take (i := 0) (v := ?_) (by simp only [List.getElem?_toArray, List.getElem?_cons_zero] <;> rfl) (by kernel_rfl) (by kernel_rfl) (by kernel_rfl) (by exact fun _ _ _ h => h) (Or.inl ⟨by rfl, ?_⟩) hHeld ?_
  rotate_left
  · intro w hSw; (try dsimp only at hSw); go_simp; (try with_reducible rfl)
  (try simp only [Act.put, List.setIfInBounds_toArray, List.set_cons_zero, List.set_cons_succ])
  refine wpAnyH_take (i := 1) (v := ?_) (by simp only [List.getElem?_toArray, List.getElem?_cons_succ, List.getElem?_cons_zero] <;> rfl) (by kernel_rfl) (by kernel_rfl) (by kernel_rfl) (by exact fun _ _ _ h => h) (Or.inl ⟨by rfl, ?_⟩) hHeld ?_
  rotate_left
  · intro w hSw; (try dsimp only at hSw); go_simp; (try with_reducible rfl)
  (try simp only [Act.put, List.setIfInBounds_toArray, List.set_cons_zero, List.set_cons_succ])
  refine wpAnyH_take (i := 2) (v := ?_) (by simp only [List.getElem?_toArray, List.getElem?_cons_succ, List.getElem?_cons_zero] <;> rfl) (by kernel_rfl) (by kernel_rfl) (by kernel_rfl) (by exact fun _ _ _ h => h) (Or.inl ⟨by rfl, ?_⟩) hHeld ?_
  rotate_left
  · intro w hSw; (try dsimp only at hSw); go_simp; (try with_reducible rfl)
  (try simp only [Act.put, List.setIfInBounds_toArray, List.set_cons_zero, List.set_cons_succ])
  refine wpAnyH_take (i := 5) (v := ?_) (by simp only [List.getElem?_toArray, List.getElem?_cons_succ, List.getElem?_cons_zero] <;> rfl) (by kernel_rfl) (by kernel_rfl) (by kernel_rfl) (by exact fun _ _ _ h => h) (Or.inl ⟨by rfl, ?_⟩) hHeld ?_
  rotate_left
  · intro w hSw; (try dsimp only at hSw); go_simp; (try with_reducible rfl)
  (try simp only [Act.put, List.setIfInBounds_toArray, List.set_cons_zero, List.set_cons_succ])
  refine wpAnyH_take (i := 6) (v := ?_) (by simp only [List.getElem?_toArray, List.getElem?_cons_succ, List.getElem?_cons_zero] <;> rfl) (by kernel_rfl) (by kernel_rfl) (by kernel_rfl) (by exact fun _ _ _ h => h) (Or.inl ⟨by rfl, ?_⟩) hHeld ?_
  rotate_left
  · intro w hSw; (try dsimp only at hSw); go_simp; (try with_reducible rfl)
  (try simp only [Act.put, List.setIfInBounds_toArray, List.set_cons_zero, List.set_cons_succ])
  refine wpAnyH_ready (rs := [3, 4]) (by kernel_rfl) (by simp) ?_
  refine AllReadyH.cons (by simp only [List.getElem?_toArray, List.getElem?_cons_succ, List.getElem?_cons_zero] <;> rfl) (fun K hK => ?_) ?_
  · go_simp
    with_reducible refine (lsh64 W0.heap.size W0.heap.size h V j1.room j1 hv).mono ?_
    rintro e w2 ⟨rfl, g2, i2⟩
    go_wp2_with fail
    have D2 : Below W0.heap.size W0 w2 := below_of_grown D1 g2 (Nat.le_refl _)
    refine hK.out _ _ ?_ (fun hHeld => ?_)
    · (try dsimp only); exact HC _ D2
    clear hK K
    (try simp only [Act.put, List.setIfInBounds_toArray, List.set_cons_zero, List.set_cons_succ])
    refine wpAnyH_ready (rs := [4]) (by kernel_rfl) (by simp) ?_
    refine AllReadyH.cons (by simp only [List.getElem?_toArray, List.getElem?_cons_succ, List.getElem?_cons_zero] <;> rfl) (fun K hK => ?_) AllReadyH.nil
    go_simp
    have DN : Below W0.heap.size W0 (w2.alloc (.cells #[.bool false, .slice none 0 0] 32)) := D2.alloc (by have := D2.size; omega) _
    refine hK.out _ _ ?_ (fun hHeld => ?_)
    · (try dsimp only); exact HC _ DN
    clear hK K
    (try simp only [Act.put, List.setIfInBounds_toArray, List.set_cons_zero, List.set_cons_succ])
    have RN := room_new w2
    have iN := i2.below ((Below.refl _ _).alloc (Nat.le_refl _) (.cells #[.bool false, .slice none 0 0] 32))
    have hgN : W0.heap.size ≤ w2.heap.size := D2.size
    have hne : W0.heap.size ≠ w2.heap.size := by have := i2.room.lt; omega
    refine wpAnyH_ready (rs := [7]) (by kernel_rfl) (by simp) ?_
    refine AllReadyH.cons (by simp only [List.getElem?_toArray, List.getElem?_cons_succ, List.getElem?_cons_zero] <;> rfl) (fun K hK => ?_) AllReadyH.nil
    go_simp
    with_reducible refine (setU_any w2.heap.size l (w2.alloc (.cells #[.bool false, .slice none 0 0] 32)) RN hl).mono ?_
    rintro e w3 ⟨rfl, g3, i3⟩
    go_wp2_with fail
    have D3 : Below W0.heap.size W0 w3 := below_of_grown DN g3 hgN
    have iG := iN.only RN g3 hne
    refine hK.out _ _ ?_ (fun hHeld => ?_)
    · (try dsimp only); exact HC _ D3
    clear hK K
    (try simp only [Act.put, List.setIfInBounds_toArray, List.set_cons_zero, List.set_cons_succ])
    refine wpAnyH_ready (rs := [8]) (by kernel_rfl) (by simp) ?_
    refine AllReadyH.cons (by simp only [List.getElem?_toArray, List.getElem?_cons_succ, List.getElem?_cons_zero] <;> rfl) (fun K hK => ?_) AllReadyH.nil
    go_simp
    with_reducible refine (add_int W0.heap.size W0.heap.size w2.heap.size (h * 2 ^ 64) l w3 iG.room iG i3 hv2).mono ?_
    rintro e w4 ⟨rfl, g4, i4⟩
    go_wp2_with fail
    have D4 : Below W0.heap.size W0 w4 := below_of_grown D3 g4 (Nat.le_refl _)
    refine hK.out _ _ ?_ (fun hHeld => ?_)
    · (try dsimp only); exact HC _ D4
    clear hK K
    (try simp only [Act.put, List.setIfInBounds_toArray, List.set_cons_zero, List.set_cons_succ])
    refine wpAnyH_take (i := 9) (v := ?_) (by simp only [List.getElem?_toArray, List.getElem?_cons_succ, List.getElem?_cons_zero] <;> rfl) (by kernel_rfl) (by kernel_rfl) (by kernel_rfl) (by exact fun _ _ _ h => h) (Or.inl ⟨by rfl, ?_⟩) hHeld ?_
    rotate_left
    · intro w hSw; (try dsimp only at hSw); go_simp; (try with_reducible rfl)
    (try simp only [Act.put, List.setIfInBounds_toArray, List.set_cons_zero, List.set_cons_succ])
    refine wpAnyH_done (by kernel_rfl) ?_ _
    go_wp2
    go_ret
    refine ⟨W0.heap.size, by omega, rfl, below_of HB D4 (by omega), ?_⟩
    have e : (h : Int) * 2 ^ 64 + l = (h : Int) * 18446744073709551616 + l := by omega
    rw [e] at i4
    exact i4
  · refine AllReadyH.cons (by simp only [List.getElem?_toArray, List.getElem?_cons_succ, List.getElem?_cons_zero] <;> rfl) (fun K hK => ?_) AllReadyH.nil
    go_simp
    have DA : Below W0.heap.size W0 (V.alloc (.cells #[.bool false, .slice none 0 0] 32)) := D1.alloc (by omega) _
    refine hK.out _ _ ?_ (fun hHeld => ?_)
    · (try dsimp only); exact HC _ DA
    clear hK K
    (try simp only [Act.put, List.setIfInBounds_toArray, List.set_cons_zero, List.set_cons_succ])
    have hgN : W0.heap.size ≤ V.heap.size := D1.size
    have hne : W0.heap.size ≠ V.heap.size := by have := j1.room.lt; omega
    have jA := j1.below ((Below.refl _ _).alloc (Nat.le_refl _) (.cells #[.bool false, .slice none 0 0] 32))
    refine wpAnyH_ready (rs := [3]) (by kernel_rfl) (by simp) ?_
    refine AllReadyH.cons (by simp only [List.getElem?_toArray, List.getElem?_cons_succ, List.getElem?_cons_zero] <;> rfl) (fun K hK => ?_) AllReadyH.nil
    go_simp
    with_reducible refine (lsh64 W0.heap.size W0.heap.size h (V.alloc (.cells #[.bool false, .slice none 0 0] 32)) jA.room jA hv).mono ?_
    rintro e w2 ⟨rfl, g2, i2⟩
    go_wp2_with fail
    have DN : Below W0.heap.size W0 w2 := below_of_grown DA g2 (Nat.le_refl _)
    have RN := (room_new V).only g2 (fun e => hne e.symm)
    have iN := i2
    refine hK.out _ _ ?_ (fun hHeld => ?_)
    · (try dsimp only); exact HC _ DN
    clear hK K
    (try simp only [Act.put, List.setIfInBounds_toArray, List.set_cons_zero, List.set_cons_succ])
    refine wpAnyH_ready (rs := [7]) (by kernel_rfl) (by simp) ?_
    refine AllReadyH.cons (by simp only [List.getElem?_toArray, List.getElem?_cons_succ, List.getElem?_cons_zero] <;> rfl) (fun K hK => ?_) AllReadyH.nil
    go_simp
    with_reducible refine (setU_any V.heap.size l w2 RN hl).mono ?_
    rintro e w3 ⟨rfl, g3, i3⟩
    go_wp2_with fail
    have D3 : Below W0.heap.size W0 w3 := below_of_grown DN g3 hgN
    have iG := iN.only RN g3 hne
    refine hK.out _ _ ?_ (fun hHeld => ?_)
    · (try dsimp only); exact HC _ D3
    clear hK K
    (try simp only [Act.put, List.setIfInBounds_toArray, List.set_cons_zero, List.set_cons_succ])
    refine wpAnyH_ready (rs := [8]) (by kernel_rfl) (by simp) ?_
    refine AllReadyH.cons (by simp only [List.getElem?_toArray, List.getElem?_cons_succ, List.getElem?_cons_zero] <;> rfl) (fun K hK => ?_) AllReadyH.nil
    go_simp
    with_reducible refine (add_int W0.heap.size W0.heap.size V.heap.size (h * 2 ^ 64) l w3 iG.room iG i3 hv2).mono ?_
    rintro e w4 ⟨rfl, g4, i4⟩
    go_wp2_with fail
    have D4 : Below W0.heap.size W0 w4 := below_of_grown D3 g4 (Nat.le_refl _)
    refine hK.out _ _ ?_ (fun hHeld => ?_)
    · (try dsimp only); exact HC _ D4
    clear hK K
    (try simp only [Act.put, List.setIfInBounds_toArray, List.set_cons_zero, List.set_cons_succ])
    refine wpAnyH_take (i := 9) (v := ?_) (by simp only [List.getElem?_toArray, List.getElem?_cons_succ, List.getElem?_cons_zero] <;> rfl) (by kernel_rfl) (by kernel_rfl) (by kernel_rfl) (by exact fun _ _ _ h => h) (Or.inl ⟨by rfl, ?_⟩) hHeld ?_
    rotate_left
    · intro w hSw; (try dsimp only at hSw); go_simp; (try with_reducible rfl)
    (try simp only [Act.put, List.setIfInBounds_toArray, List.set_cons_zero, List.set_cons_succ])
    refine wpAnyH_done (by kernel_rfl) ?_ _
    go_wp2
    go_ret
    refine ⟨W0.heap.size, by omega, rfl, below_of HB D4 (by omega), ?_⟩
    have e : (h : Int) * 2 ^ 64 + l = (h : Int) * 18446744073709551616 + l := by omega
    rw [e] at i4
    exact i4
end Go.Proofs.Ytfopcipapphogaa
