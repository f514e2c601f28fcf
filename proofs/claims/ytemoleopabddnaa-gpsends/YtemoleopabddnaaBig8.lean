/- The reference's Set at nought; Neg, Abs, Sub, Sign: contracts. -/
import Derived.Test.YtemoleopabddnaaBig7
namespace Go.Proofs.Ytemoleopabddnaa
open Go.RowKit

set_option maxRecDepth 100000 in
set_option maxHeartbeats 4000000 in
theorem set_zero (gz gx : Nat) (A : Option Addr) (c : Nat) (w : World) (hne : gx ≠ gz) (hz : Room w gz) (hg : w.rowIs gx 45 2 (two (.bool false) (.slice A 0 c))) :
    Calls Try.prog 48 #[.pointer (some ⟨gz, 0, none⟩), .pointer (some ⟨gx, 0, none⟩)] w fun e w' =>
      e = .returned (.pointer (some ⟨gz, 0, none⟩)) ∧ w.grownBy w' (some gz) ∧ IntAt w' gz 0 := by
  have c0 : w.cell? ⟨gx, 0, none⟩ = some (.bool false) := hg.cell (by decide)
  have c1 : w.cell? ⟨gx, 1, none⟩ = some (.slice A 0 c) := hg.cell (by decide)
  have lx := hg.lt
  have lz := hz.lt
  obtain ⟨k0, hz0⟩ := hz
  have z0 := hz0.cell (i := 0) (by decide)
  have z1 := hz0.cell (i := 1) (by decide)
  have y0 := hz0.frozen 0
  have y1 := hz0.frozen 1
  go_enter Try.func48, Try.ntmps48
  go_wp2_with fail
  refine wp_region_held_drew (S := (fun w' => w'.cell? ⟨gx, 0, none⟩ = some (.bool false) ∧ w'.cell? ⟨gx, 1, none⟩ = some (.slice A 0 c))) (by kernel_rfl) ⟨c0, c1⟩ (fun hHeld => ?_)
  refine wpAnyH_take (i := 0) (v := ?_) (by simp only [List.getElem?_toArray, List.getElem?_cons_zero] <;> rfl) (by kernel_rfl) (by kernel_rfl) (by kernel_rfl) (by exact fun _ _ _ h => h) (Or.inl ⟨by rfl, ?_⟩) hHeld ?_
  rotate_left
  · intro w hSw; (try dsimp only at hSw); go_simp; (try with_reducible rfl)
  (try simp only [Act.put, List.setIfInBounds_toArray, List.set_cons_zero, List.set_cons_succ])
  refine wpAnyH_take (i := 1) (v := ?_) (by simp only [List.getElem?_toArray, List.getElem?_cons_succ, List.getElem?_cons_zero] <;> rfl) (by kernel_rfl) (by kernel_rfl) (by kernel_rfl) (by exact fun _ _ _ h => h) (Or.inl ⟨by rfl, ?_⟩) hHeld ?_
  rotate_left
  · intro w hSw; (try dsimp only at hSw); go_simp; (try with_reducible rfl)
  (try simp only [Act.put, List.setIfInBounds_toArray, List.set_cons_zero, List.set_cons_succ])
  refine wpAnyH_take (i := 2) (v := ?_) (by simp only [List.getElem?_toArray, List.getElem?_cons_succ, List.getElem?_cons_zero] <;> rfl) (by kernel_rfl) (by kernel_rfl) (by kernel_rfl) (by exact fun _ _ _ h => h) (Or.inl ⟨by rfl, ?_⟩) hHeld ?_
  rotate_left
  · intro w hSw; (try dsimp only at hSw); go_simp; (try with_reducible rfl)
  (try simp only [Act.put, List.setIfInBounds_toArray, List.set_cons_zero, List.set_cons_succ])
  refine wpAnyH_take (i := 3) (v := ?_) (by simp only [List.getElem?_toArray, List.getElem?_cons_succ, List.getElem?_cons_zero] <;> rfl) (by kernel_rfl) (by kernel_rfl) (by kernel_rfl) (by exact fun _ _ _ h => h) (Or.inl ⟨by rfl, ?_⟩) hHeld ?_
  rotate_left
  · intro w hSw; (try dsimp only at hSw); go_simp; (try with_reducible rfl)
  (try simp only [Act.put, List.setIfInBounds_toArray, List.set_cons_zero, List.set_cons_succ])
  refine wpAnyH_take (i := 4) (v := ?_) (by simp only [List.getElem?_toArray, List.getElem?_cons_succ, List.getElem?_cons_zero] <;> rfl) (by kernel_rfl) (by kernel_rfl) (by kernel_rfl) (by exact fun _ _ _ h => h) (Or.inl ⟨by rfl, ?_⟩) hHeld ?_
  rotate_left
  · intro w hSw; (try dsimp only at hSw); go_simp; (try with_reducible rfl)
  (try simp only [Act.put, List.setIfInBounds_toArray, List.set_cons_zero, List.set_cons_succ])
  refine wpAnyH_take (i := 5) (v := ?_) (by simp only [List.getElem?_toArray, List.getElem?_cons_succ, List.getElem?_cons_zero] <;> rfl) (by kernel_rfl) (by kernel_rfl) (by kernel_rfl) (by exact fun _ _ _ h => h) (Or.inl ⟨by rfl, ?_⟩) hHeld ?_
  rotate_left
  · intro w hSw; (try dsimp only at hSw); go_simp; (try with_reducible rfl)
  (try simp only [Act.put, List.setIfInBounds_toArray, List.set_cons_zero, List.set_cons_succ])
  refine wpAnyH_take (i := 7) (v := ?_) (by simp only [List.getElem?_toArray, List.getElem?_cons_succ, List.getElem?_cons_zero] <;> rfl) (by kernel_rfl) (by kernel_rfl) (by kernel_rfl) (by exact fun _ _ _ h => h) (Or.inl ⟨by rfl, ?_⟩) hHeld ?_
  rotate_left
  · intro w hSw; (try dsimp only at hSw); go_simp; (try with_reducible rfl)
  (try simp only [Act.put, List.setIfInBounds_toArray, List.set_cons_zero, List.set_cons_succ])
  refine wpAnyH_take (i := 8) (v := ?_) (by simp only [List.getElem?_toArray, List.getElem?_cons_succ, List.getElem?_cons_zero] <;> rfl) (by kernel_rfl) (by kernel_rfl) (by kernel_rfl) (by exact fun _ _ _ h => h) (Or.inl ⟨by rfl, ?_⟩) hHeld ?_
  rotate_left
  · intro w hSw; (try dsimp only at hSw); go_simp; (try with_reducible rfl)
  (try simp only [Act.put, List.setIfInBounds_toArray, List.set_cons_zero, List.set_cons_succ])
  refine wpAnyH_take (i := 9) (v := ?_) (by simp only [List.getElem?_toArray, List.getElem?_cons_succ, List.getElem?_cons_zero] <;> rfl) (by kernel_rfl) (by kernel_rfl) (by kernel_rfl) (by exact fun _ _ _ h => h) (Or.inl ⟨by rfl, ?_⟩) hHeld ?_
  rotate_left
  · intro w hSw; (try dsimp only at hSw); go_simp; (try with_reducible rfl)
  (try simp only [Act.put, List.setIfInBounds_toArray, List.set_cons_zero, List.set_cons_succ])
  refine wpAnyH_take (i := 10) (v := ?_) (by simp only [List.getElem?_toArray, List.getElem?_cons_succ, List.getElem?_cons_zero] <;> rfl) (by kernel_rfl) (by kernel_rfl) (by kernel_rfl) (by exact fun _ _ _ h => h) (Or.inl ⟨by rfl, ?_⟩) hHeld ?_
  rotate_left
  · intro w hSw; (try dsimp only at hSw); go_simp; (try with_reducible rfl)
  (try simp only [Act.put, List.setIfInBounds_toArray, List.set_cons_zero, List.set_cons_succ])
  refine wpAnyH_ready (rs := [6]) (by kernel_rfl) (by simp) ?_
  refine AllReadyH.cons (by simp only [List.getElem?_toArray, List.getElem?_cons_succ, List.getElem?_cons_zero] <;> rfl) (fun K hK => ?_) AllReadyH.nil
  go_simp
  refine hK.out _ _ ?_ (fun hHeld => ?_)
  · exact ⟨(cell_alloc lx).trans c0, (cell_alloc lx).trans c1⟩
  clear hK K
  (try simp only [Act.put, List.setIfInBounds_toArray, List.set_cons_zero, List.set_cons_succ])
  refine wpAnyH_ready (rs := [11]) (by kernel_rfl) (by simp) ?_
  refine AllReadyH.cons (by simp only [List.getElem?_toArray, List.getElem?_cons_succ, List.getElem?_cons_zero] <;> rfl) (fun K hK => ?_) AllReadyH.nil
  have hbw : Below w.heap.size w ((w.alloc (.cells #[] 62)).drew) := ((Below.refl w.heap.size w).alloc (Nat.le_refl _) _).drew
  have w0 := (hbw.cell (p := ⟨gz, 0, none⟩) lz).trans z0
  have w2 := (hbw.cell (p := ⟨gz, 1, none⟩) lz).trans z1
  have v0 := (hbw.frozen (p := ⟨gz, 0, none⟩) lz).trans y0
  have v1 := (hbw.frozen (p := ⟨gz, 1, none⟩) lz).trans y1
  have x0 := (hbw.cell (p := ⟨gx, 0, none⟩) lx).trans c0
  have x1 := (hbw.cell (p := ⟨gx, 1, none⟩) lx).trans c1
  generalize (w.alloc (.cells #[] 62)).drew = w1 at hbw w0 w2 v0 v1 x0 x1 ⊢
  clear hHeld
  cases A
  all_goals
    go_simp
    refine hK.out _ _ ⟨x0, x1⟩ (fun hHeld => ?_)
    clear hK K
    (try simp only [Act.put, List.setIfInBounds_toArray, List.set_cons_zero, List.set_cons_succ])
    refine wpAnyH_take (i := 12) (v := ?_) (by simp only [List.getElem?_toArray, List.getElem?_cons_succ, List.getElem?_cons_zero] <;> rfl) (by kernel_rfl) (by kernel_rfl) (by kernel_rfl) (by exact fun _ _ _ h => h) (Or.inl ⟨by rfl, ?_⟩) hHeld ?_
    rotate_left
    · intro w hSw; (try dsimp only at hSw); go_simp; (try with_reducible rfl)
    (try simp only [Act.put, List.setIfInBounds_toArray, List.set_cons_zero, List.set_cons_succ])
    refine wpAnyH_take (i := 13) (v := ?_) (by simp only [List.getElem?_toArray, List.getElem?_cons_succ, List.getElem?_cons_zero] <;> rfl) (by kernel_rfl) (by kernel_rfl) (by kernel_rfl) (by exact fun _ _ _ h => h) (Or.inl ⟨by rfl, ?_⟩) hHeld ?_
    rotate_left
    · intro w hSw; (try dsimp only at hSw); go_simp; (try with_reducible rfl)
    (try simp only [Act.put, List.setIfInBounds_toArray, List.set_cons_zero, List.set_cons_succ])
    refine wpAnyH_ready (rs := [14]) (by kernel_rfl) (by simp) ?_
    refine AllReadyH.cons (by simp only [List.getElem?_toArray, List.getElem?_cons_succ, List.getElem?_cons_zero] <;> rfl) (fun K hK => ?_) AllReadyH.nil
    go_simp
    refine hK.out _ _ ?_ (fun hHeld => ?_)
    · (try dsimp only); exact ⟨(cell_far hne).trans x0, (cell_far hne).trans x1⟩
    clear hK K
    (try simp only [Act.put, List.setIfInBounds_toArray, List.set_cons_zero, List.set_cons_succ])
    refine wpAnyH_take (i := 15) (v := ?_) (by simp only [List.getElem?_toArray, List.getElem?_cons_succ, List.getElem?_cons_zero] <;> rfl) (by kernel_rfl) (by kernel_rfl) (by kernel_rfl) (by exact fun _ _ _ h => h) (Or.inl ⟨by rfl, ?_⟩) hHeld ?_
    rotate_left
    · intro w hSw; (try dsimp only at hSw); go_simp; (try with_reducible rfl)
    (try simp only [Act.put, List.setIfInBounds_toArray, List.set_cons_zero, List.set_cons_succ])
    refine wpAnyH_take (i := 16) (v := ?_) (by simp only [List.getElem?_toArray, List.getElem?_cons_succ, List.getElem?_cons_zero] <;> rfl) (by kernel_rfl) (by kernel_rfl) (by kernel_rfl) (by exact fun _ _ _ h => h) (Or.inl ⟨by rfl, ?_⟩) hHeld ?_
    rotate_left
    · intro w hSw; (try dsimp only at hSw); go_simp; (try with_reducible rfl)
    (try simp only [Act.put, List.setIfInBounds_toArray, List.set_cons_zero, List.set_cons_succ])
    refine wpAnyH_ready (rs := [17]) (by kernel_rfl) (by simp) ?_
    refine AllReadyH.cons (by simp only [List.getElem?_toArray, List.getElem?_cons_succ, List.getElem?_cons_zero] <;> rfl) (fun K hK => ?_) AllReadyH.nil
    go_simp
    refine hK.out _ _ ?_ (fun hHeld => ?_)
    · (try dsimp only); exact ⟨(cell_far hne).trans ((cell_far hne).trans x0), (cell_far hne).trans ((cell_far hne).trans x1)⟩
    clear hK K
    (try simp only [Act.put, List.setIfInBounds_toArray, List.set_cons_zero, List.set_cons_succ])
    refine wpAnyH_done (by kernel_rfl) ?_ _
    go_wp2
    go_ret
    have hz1 := hz0.of_block (hbw.block gz lz)
    exact ⟨rfl, grown_trans (grown_of_below hbw) (grown_here (grown_here (World.grownBy.refl _ _) 0 (.bool false)) 1 (.slice (some ⟨w.heap.size, 0, none⟩) 0 0)), false, some ⟨w.heap.size, 0, none⟩, 0, 0, fun _ => 0, two_of hz1 _ _, Nat.le_refl _, ⟨by decide, by decide⟩, fun h => by omega, fun j hj => by omega, fun h => by omega, fun _ => rfl, rfl⟩

theorem set_int (gz gx : Nat) (x : Int) (w : World) (hne : gx ≠ gz) (hz : Room w gz) (hx : IntAt w gx x) :
    Calls Try.prog 48 #[.pointer (some ⟨gz, 0, none⟩), .pointer (some ⟨gx, 0, none⟩)] w fun e w' =>
      e = .returned (.pointer (some ⟨gz, 0, none⟩)) ∧ w.grownBy w' (some gz) ∧ IntAt w' gz x := by
  obtain ⟨s, A, n, c, f, hr, h1, h2, hd, hs, ht, hz1, rfl⟩ := hx
  rcases Nat.eq_zero_or_pos n with h0 | h0
  · subst h0
    have := hz1 rfl
    subst this
    exact set_zero gz gx A c w hne hz hr
  · obtain ⟨b, rfl⟩ := hd.addr h0
    exact set_raw gz gx s b n c f w hne hz hr hd h0 h2.2 hs (ht h0)

set_option maxHeartbeats 1000000 in
theorem neg_int (gz gx : Nat) (x : Int) (w : World) (hne : gx ≠ gz) (hz : Room w gz) (hx : IntAt w gx x) :
    Calls Try.prog 47 #[.pointer (some ⟨gz, 0, none⟩), .pointer (some ⟨gx, 0, none⟩)] w fun e w' =>
      e = .returned (.pointer (some ⟨gz, 0, none⟩)) ∧ w.grownBy w' (some gz) ∧ IntAt w' gz (-x) := by
  go_enter Try.func47, Try.ntmps47
  go_wp2_with fail
  refine (set_int gz gx x _ hne hz hx).mono ?_
  rintro e w1 ⟨rfl, hgr, s, A, n, c, f, hr, h1, h2, hd, hs, ht, hz1, rfl⟩
  have c0 : w1.cell? ⟨gz, 0, none⟩ = some (.bool s) := hr.cell (by decide)
  have c1 : w1.cell? ⟨gz, 1, none⟩ = some (.slice A n c) := hr.cell (by decide)
  have y0 := hr.frozen 0
  cases s
  · rcases Nat.eq_zero_or_pos n with h0 | h0
    · subst h0
      go_wp2
      go_ret
      exact ⟨rfl, grown_here hgr 0 _, false, A, 0, c, f, two_set0 hr _, h1, h2, fun h => by omega, fun j hj => by omega, fun h => by omega, fun _ => rfl, rfl⟩
    · go_wp2
      go_ret
      refine ⟨rfl, grown_here hgr 0 _, true, A, n, c, f, ?_, h1, h2, hd.only hr (grown_here (World.grownBy.refl w1 _) 0 _), hs, ht, fun h => by omega, by simp [sg]⟩
      have e : decide (0 < n) = true := by simp [h0]
      first | exact two_set0 hr _ | (have := two_set0 hr (.bool (decide (0 < n))); rwa [e] at this)
  · have h0 : 0 < n := by
      rcases Nat.eq_zero_or_pos n with h | h
      · have := hz1 h; contradiction
      · exact h
    go_wp2
    go_ret
    exact ⟨rfl, grown_here hgr 0 _, false, A, n, c, f, two_set0 hr _, h1, h2, hd.only hr (grown_here (World.grownBy.refl w1 _) 0 _), hs, ht, fun _ => rfl, by simp [sg]⟩

theorem abs_int (gz gx : Nat) (x : Int) (w : World) (hne : gx ≠ gz) (hz : Room w gz) (hx : IntAt w gx x) :
    Calls Try.prog 56 #[.pointer (some ⟨gz, 0, none⟩), .pointer (some ⟨gx, 0, none⟩)] w fun e w' =>
      e = .returned (.pointer (some ⟨gz, 0, none⟩)) ∧ w.grownBy w' (some gz) ∧ IntAt w' gz x.natAbs := by
  go_enter Try.func56, Try.ntmps56
  go_wp2_with fail
  refine (set_int gz gx x _ hne hz hx).mono ?_
  rintro e w1 ⟨rfl, hgr, s, A, n, c, f, hr, h1, h2, hd, hs, ht, hz1, rfl⟩
  have c0 : w1.cell? ⟨gz, 0, none⟩ = some (.bool s) := hr.cell (by decide)
  have y0 := hr.frozen 0
  go_wp2
  go_ret
  exact ⟨rfl, grown_here hgr 0 _, false, A, n, c, f, two_set0 hr _, h1, h2, hd.only hr (grown_here (World.grownBy.refl w1 _) 0 _), hs, ht, fun _ => rfl, by rw [sg_abs]; rfl⟩

theorem sub_int (gz gx gy : Nat) (x y : Int) (w : World) (hz : Room w gz) (hx : IntAt w gx x) (hy : IntAt w gy y) (hv : Fits (x - y).natAbs) :
    Calls Try.prog 65 #[.pointer (some ⟨gz, 0, none⟩), .pointer (some ⟨gx, 0, none⟩), .pointer (some ⟨gy, 0, none⟩)] w fun e w' =>
      e = .returned (.pointer (some ⟨gz, 0, none⟩)) ∧ w.grownBy w' (some gz) ∧ IntAt w' gz (x - y) := by
  have hb := (Below.refl w.heap.size w).alloc (Nat.le_refl _) (.cells #[.bool false, .slice none 0 0] 45)
  have lx := hx.room.lt
  have ly := hy.room.lt
  have lz := hz.lt
  go_enter Try.func65, Try.ntmps65
  go_wp2_with fail
  refine (neg_int w.heap.size gy y _ (by omega) (room_new w) (hy.below hb)).mono ?_
  rintro e w1 ⟨rfl, hgr, hi⟩
  have hb1 : Below w.heap.size w w1 := below_of_grown hb hgr (Nat.le_refl _)
  go_wp2_with fail
  refine (add_int gz gx w.heap.size x (-y) _ (hz.below hb1) (hx.below hb1) hi (by rw [← Int.sub_eq_add_neg]; exact hv)).mono ?_
  rintro e w2 ⟨rfl, hgr2, hi2⟩
  go_wp2
  go_ret
  rw [← Int.sub_eq_add_neg] at hi2
  exact ⟨rfl, grown_trans (grown_of_below hb1) hgr2, hi2⟩
end Go.Proofs.Ytemoleopabddnaa
