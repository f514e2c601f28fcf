/- The reference's QuoRem: contracts, at numbers that are not below 0 and where the divisor is greater. -/
import Derived.Test.YtfopcipapphogaaParts
import Derived.Test.YtfopcipapphogaaParts1
import Derived.Test.YtfopcipapphogaaBig12
namespace Go.Proofs.Ytfopcipapphogaa
open Go.RowKit

/-- Only blocks a and b, and what is new, have turned. -/
structure Kept2 (w w' : World) (a b : Nat) : Prop where
  os : w'.os = w.os
  tape : w'.tape = w.tape
  output : w'.output = w.output
  size : w.heap.size ≤ w'.heap.size
  block : ∀ k, k < w.heap.size → k ≠ a → k ≠ b → w'.heap[k]? = w.heap[k]?
theorem Kept2.refl (w : World) (a b : Nat) : Kept2 w w a b := ⟨rfl, rfl, rfl, Nat.le_refl _, fun _ _ _ _ => rfl⟩
theorem Kept2.drewN {w w' : World} {a b : Nat} (h : Kept2 w w' a b) (n : Nat) : Kept2 w (w'.drewN n) a b := ⟨h.os, h.tape, h.output, h.size, h.block⟩
theorem Kept2.left {w v w' : World} {a b : Nat} (h : Kept2 w v a b) (g : v.grownBy w' (some a)) : Kept2 w w' a b :=
  ⟨g.os.trans h.os, g.tape.trans h.tape, g.output.trans h.output, Nat.le_trans h.size g.size, fun k hk h1 h2 => (g.block k (Nat.lt_of_lt_of_le hk h.size) (by simp [h1])).trans (h.block k hk h1 h2)⟩
theorem Kept2.right {w v w' : World} {a b : Nat} (h : Kept2 w v a b) (g : v.grownBy w' (some b)) : Kept2 w w' a b :=
  ⟨g.os.trans h.os, g.tape.trans h.tape, g.output.trans h.output, Nat.le_trans h.size g.size, fun k hk h1 h2 => (g.block k (Nat.lt_of_lt_of_le hk h.size) (by simp [h2])).trans (h.block k hk h1 h2)⟩
theorem Kept2.below {w v w' : World} {a b : Nat} (h : Kept2 w v a b) (g : Below v.heap.size v w') : Kept2 w w' a b :=
  ⟨g.os.trans h.os, g.tape.trans h.tape, g.output.trans h.output, Nat.le_trans h.size g.size, fun k hk h1 h2 => (g.block k (Nat.lt_of_lt_of_le hk h.size)).trans (h.block k hk h1 h2)⟩
theorem IntAt.kept2 {w w' : World} {g a b : Nat} {z : Int} (h : IntAt w g z) (ha : Room w a) (hb : Room w b) (k : Kept2 w w' a b) (n1 : g ≠ a) (n2 : g ≠ b) : IntAt w' g z := by
  obtain ⟨s, A, n, c, f, hr, h1, h2, hd, h3⟩ := h
  obtain ⟨_, ha⟩ := ha
  obtain ⟨_, hb⟩ := hb
  refine ⟨s, A, n, c, f, hr.of_block (k.block g hr.lt n1 n2), h1, h2, fun h0 => ?_, h3⟩
  obtain ⟨d, m, F, hA, hk, hw, hf⟩ := hd h0
  exact ⟨d, m, F, hA, hk, hw.of_block (k.block d hw.lt (row_ne hw ha (by decide)) (row_ne hw hb (by decide))), hf⟩

/-- QuoRem, where the divisor is the greater. -/
theorem quo_less (gz gx gy gr : Nat) (x y : Int) (w : World) (hz : Room w gz) (hr : Room w gr) (hx : IntAt w gx x) (hy : IntAt w gy y) (n1 : gx ≠ gr) (n2 : gz ≠ gr) (hlt : x.natAbs < y.natAbs) :
    Calls Try.prog 68 #[.pointer (some ⟨gz, 0, none⟩), .pointer (some ⟨gx, 0, none⟩), .pointer (some ⟨gy, 0, none⟩), .pointer (some ⟨gr, 0, none⟩)] w fun e w' =>
      e = .returned (.tuple #[.pointer (some ⟨gz, 0, none⟩), .pointer (some ⟨gr, 0, none⟩)]) ∧ Kept2 w w' gz gr ∧ IntAt w' gz 0 ∧ IntAt w' gr x := by
  have hc : cmpI (x.natAbs : Int) (y.natAbs : Int) = -1 := by unfold cmpI; rw [if_pos (by omega)]
  go_enter Try.func68, Try.ntmps68
  go_wp2_with fail
  refine (cmpAbs_any gx gy x y _ hx hy).mono ?_
  rintro e w1 ⟨rfl, k, rfl⟩
  rw [hc]
  go_wp2_with fail
  have h1 := hx.drewN k
  have h2 := hr.drewN k
  refine (set_int gr gx x _ n1 h2 h1).mono ?_
  rintro e w2 ⟨rfl, g2, i2⟩
  have hz2 := (hz.drewN k).only g2 n2
  go_wp2_with fail
  refine (setI_any gz 0 w2 hz2 (by decide)).mono ?_
  rintro e w3 ⟨rfl, g3, i3⟩
  go_wp2_with fail
  exact bodyPost_ret (v := .tuple #[.pointer (some ⟨gz, 0, none⟩), .pointer (some ⟨gr, 0, none⟩)]) (by simp [results, Try.results68, go_sem]) rfl
    ⟨rfl, (((Kept2.refl w gz gr).drewN k).right g2).left g3, i3, i2.only hz2 g3 (fun e => n2 e.symm)⟩

set_option maxRecDepth 1000000 in
set_option maxHeartbeats 4000000 in
/-- QuoRem by digits. -/
theorem quo_parts (gz gx gy gr : Nat) (X Y : Nat) (w : World) (hz : Room w gz) (hr : Room w gr) (hx : IntAt w gx X) (hy : IntAt w gy Y) (n2 : gz ≠ gr) (h0 : 0 < Y) (hle : Y ≤ X) (hbig : 18446744073709551616 ≤ X) :
    Calls Try.prog 68 #[.pointer (some ⟨gz, 0, none⟩), .pointer (some ⟨gx, 0, none⟩), .pointer (some ⟨gy, 0, none⟩), .pointer (some ⟨gr, 0, none⟩)] w fun e w' =>
      e = .returned (.tuple #[.pointer (some ⟨gz, 0, none⟩), .pointer (some ⟨gr, 0, none⟩)]) ∧ Kept2 w w' gz gr ∧ IntAt w' gz (X / Y : Nat) ∧ IntAt w' gr (X % Y : Nat) := by
  have hcb : decide (cmpI (((X : Nat) : Int).natAbs : Int) (((Y : Nat) : Int).natAbs : Int) < 0) = false := by
    rw [decide_eq_false_iff_not]; unfold cmpI; split
    · omega
    · split <;> omega
  obtain ⟨A, n, c, f, hg, a1, a2, hn, hd, hs, ht, rfl⟩ := hx.nat
  obtain ⟨A', n', c', f', hg', a1', a2', hn', hd', hs', ht', rfl⟩ := hy.nat
  have hn3 : 3 ≤ n := by
    refine Nat.lt_of_not_le fun h => ?_
    have l := val_lt hs
    have l2 := Nat.pow_le_pow_right (show 0 < 4294967296 by decide) h
    omega
  have c0 : w.cell? ⟨gx, 0, none⟩ = some (.bool false) := hg.cell (by decide)
  have c1 : w.cell? ⟨gx, 1, none⟩ = some (.slice A n c) := hg.cell (by decide)
  have d0 : w.cell? ⟨gy, 0, none⟩ = some (.bool false) := hg'.cell (by decide)
  have d1 : w.cell? ⟨gy, 1, none⟩ = some (.slice A' n' c') := hg'.cell (by decide)
  have hp : ∀ q, ∃ L, Calls Try.prog 85 #[.slice A n c, .slice A' n' c'] (w.drewN q) (PartsRow (w.drewN q) L n' (val n f / val n' f') (val n f % val n' f')) := by
    intro q
    have hn0 : 0 < n' := by
      rcases Nat.eq_zero_or_pos n' with h | h
      · subst h; simp [val] at h0
      · exact h
    rcases Nat.lt_or_ge n' 2 with h | h
    · obtain rfl : n' = 1 := by omega
      exact ⟨n, parts_one A A' n c c' f f' _ hd hd' hs hs' hn (by omega) (ht' hn0)⟩
    · exact ⟨n + 1, parts_big A A' n n' c c' f f' _ hd hd' hs hs' hn h (len_le ht' (Nat.lt_of_le_of_lt hle (val_lt hs))) (ht' hn0)⟩
  have lz := hz.lt
  have lr := hr.lt
  obtain ⟨h0z, hz0⟩ := hz
  obtain ⟨h0r, hr0⟩ := hr
  have hl3 : decide ((n : Int) < 3) = false := by rw [decide_eq_false_iff_not]; omega
  go_enter Try.func68, Try.ntmps68
  go_wp2_with fail
  refine (cmpAbs_any gx gy _ _ _ hx hy).mono ?_
  rintro e w1 ⟨rfl, k, rfl⟩
  generalize cmpI (((val n f : Nat) : Int).natAbs : Int) (((val n' f' : Nat) : Int).natAbs : Int) = C at hcb ⊢
  go_wp2_with fail
  go_quiet (fail)
  go_wp2_with fail
  refine wp_region_held_drew (S := (fun w' => w'.cell? ⟨gx, 1, none⟩ = some (.slice A n c) ∧ w'.cell? ⟨gy, 1, none⟩ = some (.slice A' n' c'))) (by kernel_rfl) ⟨c1, d1⟩ (fun hHeld => ?_)
  refine wpAnyH_take (i := 0) (v := ?_) (by simp only [List.getElem?_toArray, List.getElem?_cons_zero] <;> rfl) (by kernel_rfl) (by kernel_rfl) (by kernel_rfl) (by exact fun _ _ _ h => h) (Or.inl ⟨by rfl, ?_⟩) hHeld ?_
  rotate_left
  · intro w hSw; (try dsimp only at hSw); go_simp; (try with_reducible rfl)
  (try simp only [Act.put, List.setIfInBounds_toArray, List.set_cons_zero, List.set_cons_succ])
  refine wpAnyH_take (i := 1) (v := ?_) (by simp only [List.getElem?_toArray, List.getElem?_cons_succ, List.getElem?_cons_zero] <;> rfl) (by kernel_rfl) (by kernel_rfl) (by kernel_rfl) (by exact fun _ _ _ h => h) (Or.inl ⟨by rfl, ?_⟩) hHeld ?_
  rotate_left
  · intro w hSw; (try dsimp only at hSw); go_simp; (try with_reducible rfl)
  (try simp only [Act.put, List.setIfInBounds_toArray, List.set_cons_zero, List.set_cons_succ])
  refine wpAnyH_take (i := 2) (v := ?_) (by simp only [List.getElem?_toArray, List.getElem?_cons_succ, List.getElem?_cons_zero] <;> rfl) (by kernel_rfl) (by kernel_rfl) (by kernel_rfl) (by exact fun _ _ _ h => h) (Or.inl ⟨by rfl, ?_⟩) hHeld ?_
  rotate_left
  · intro w hSw; (try dsimp only at hSw); go_simp; (try with_reducible rfl)
  (try simp only [Act.put, List.setIfInBounds_toArray, List.set_cons_zero, List.set_cons_succ])
  refine wpAnyH_take (i := 3) (v := ?_) (by simp only [List.getElem?_toArray, List.getElem?_cons_succ, List.getElem?_cons_zero] <;> rfl) (by kernel_rfl) (by kernel_rfl) (by kernel_rfl) (by exact fun _ _ _ h => h) (Or.inl ⟨by rfl, ?_⟩) hHeld ?_
  rotate_left
  · intro w hSw; (try dsimp only at hSw); go_simp; (try with_reducible rfl)
  (try simp only [Act.put, List.setIfInBounds_toArray, List.set_cons_zero, List.set_cons_succ])
  refine wpAnyH_take (i := 4) (v := ?_) (by simp only [List.getElem?_toArray, List.getElem?_cons_succ, List.getElem?_cons_zero] <;> rfl) (by kernel_rfl) (by kernel_rfl) (by kernel_rfl) (by exact fun _ _ _ h => h) (Or.inl ⟨by rfl, ?_⟩) hHeld ?_
  rotate_left
  · intro w hSw; (try dsimp only at hSw); go_simp; (try with_reducible rfl)
  (try simp only [Act.put, List.setIfInBounds_toArray, List.set_cons_zero, List.set_cons_succ])
  refine wpAnyH_take (i := 5) (v := ?_) (by simp only [List.getElem?_toArray, List.getElem?_cons_succ, List.getElem?_cons_zero] <;> rfl) (by kernel_rfl) (by kernel_rfl) (by kernel_rfl) (by exact fun _ _ _ h => h) (Or.inl ⟨by rfl, ?_⟩) hHeld ?_
  rotate_left
  · intro w hSw; (try dsimp only at hSw); go_simp; (try with_reducible rfl)
  (try simp only [Act.put, List.setIfInBounds_toArray, List.set_cons_zero, List.set_cons_succ])
  refine wpAnyH_take (i := 6) (v := ?_) (by simp only [List.getElem?_toArray, List.getElem?_cons_succ, List.getElem?_cons_zero] <;> rfl) (by kernel_rfl) (by kernel_rfl) (by kernel_rfl) (by exact fun _ _ _ h => h) (Or.inl ⟨by rfl, ?_⟩) hHeld ?_
  rotate_left
  · intro w hSw; (try dsimp only at hSw); go_simp; (try with_reducible rfl)
  (try simp only [Act.put, List.setIfInBounds_toArray, List.set_cons_zero, List.set_cons_succ])
  refine wpAnyH_take (i := 7) (v := ?_) (by simp only [List.getElem?_toArray, List.getElem?_cons_succ, List.getElem?_cons_zero] <;> rfl) (by kernel_rfl) (by kernel_rfl) (by kernel_rfl) (by exact fun _ _ _ h => h) (Or.inl ⟨by rfl, ?_⟩) hHeld ?_
  rotate_left
  · intro w hSw; (try dsimp only at hSw); go_simp; (try with_reducible rfl)
  (try simp only [Act.put, List.setIfInBounds_toArray, List.set_cons_zero, List.set_cons_succ])
  refine wpAnyH_ready (rs := [8]) (by kernel_rfl) (by simp) ?_
  refine AllReadyH.cons (by simp only [List.getElem?_toArray, List.getElem?_cons_succ, List.getElem?_cons_zero] <;> rfl) (fun K hK => ?_) AllReadyH.nil
  go_simp
  obtain ⟨L, hpL⟩ := hp (k + nq + 1)
  (with_reducible refine (Calls.mono hpL ?_))
  rintro e w2 ⟨bo, mo, br, mr, O, R, rfl, p2, p3, p4, p5, p6, p7, p8, p9, p10, p11, p12a, p12b, p13⟩
  go_wp2_with fail
  refine hK.out _ _ ?_ (fun hHeld => ?_)
  · (try dsimp only); exact ⟨(p13.cell (p := ⟨gx, 1, none⟩) hg.lt).trans c1, (p13.cell (p := ⟨gy, 1, none⟩) hg'.lt).trans d1⟩
  clear hK K
  (try simp only [Act.put, List.setIfInBounds_toArray, List.set_cons_zero, List.set_cons_succ])
  refine wpAnyH_take (i := 9) (v := ?_) (by simp only [List.getElem?_toArray, List.getElem?_cons_succ, List.getElem?_cons_zero] <;> rfl) (by kernel_rfl) (by kernel_rfl) (by kernel_rfl) (by exact fun _ _ _ h => h) (Or.inl ⟨by rfl, ?_⟩) hHeld ?_
  rotate_left
  · intro w hSw; (try dsimp only at hSw); go_simp; (try with_reducible rfl)
  (try simp only [Act.put, List.setIfInBounds_toArray, List.set_cons_zero, List.set_cons_succ])
  refine wpAnyH_take (i := 10) (v := ?_) (by simp only [List.getElem?_toArray, List.getElem?_cons_succ, List.getElem?_cons_zero] <;> rfl) (by kernel_rfl) (by kernel_rfl) (by kernel_rfl) (by exact fun _ _ _ h => h) (Or.inl ⟨by rfl, ?_⟩) hHeld ?_
  rotate_left
  · intro w hSw; (try dsimp only at hSw); go_simp; (try with_reducible rfl)
  (try simp only [Act.put, List.setIfInBounds_toArray, List.set_cons_zero, List.set_cons_succ])
  refine wpAnyH_take (i := 11) (v := ?_) (by simp only [List.getElem?_toArray, List.getElem?_cons_succ, List.getElem?_cons_zero] <;> rfl) (by kernel_rfl) (by kernel_rfl) (by kernel_rfl) (by exact fun _ _ _ h => h) (Or.inl ⟨by rfl, ?_⟩) hHeld ?_
  rotate_left
  · intro w hSw; (try dsimp only at hSw); go_simp; (try with_reducible rfl)
  (try simp only [Act.put, List.setIfInBounds_toArray, List.set_cons_zero, List.set_cons_succ])
  refine wpAnyH_take (i := 12) (v := ?_) (by simp only [List.getElem?_toArray, List.getElem?_cons_succ, List.getElem?_cons_zero] <;> rfl) (by kernel_rfl) (by kernel_rfl) (by kernel_rfl) (by exact fun _ _ _ h => h) (Or.inl ⟨by rfl, ?_⟩) hHeld ?_
  rotate_left
  · intro w hSw; (try dsimp only at hSw); go_simp; (try with_reducible rfl)
  (try simp only [Act.put, List.setIfInBounds_toArray, List.set_cons_zero, List.set_cons_succ])
  refine wpAnyH_take (i := 13) (v := ?_) (by simp only [List.getElem?_toArray, List.getElem?_cons_succ, List.getElem?_cons_zero] <;> rfl) (by kernel_rfl) (by kernel_rfl) (by kernel_rfl) (by exact fun _ _ _ h => h) (Or.inl ⟨by rfl, ?_⟩) hHeld ?_
  rotate_left
  · intro w hSw; (try dsimp only at hSw); go_simp; (try with_reducible rfl)
  (try simp only [Act.put, List.setIfInBounds_toArray, List.set_cons_zero, List.set_cons_succ])
  refine wpAnyH_done (by kernel_rfl) ?_ _
  have hb2 : Below w.heap.size w w2 := ⟨p13.os, p13.tape, p13.output, p13.size, p13.block⟩
  have z2 := hz0.of_block (hb2.block gz lz)
  have r2 := hr0.of_block (hb2.block gr lr)
  have e0 := z2.cell (i := 0) (by decide)
  have e1 := z2.cell (i := 1) (by decide)
  have e2 := z2.frozen 0
  have e3 := z2.frozen 1
  have e4 := r2.cell (i := 0) (by decide)
  have e5 := r2.cell (i := 1) (by decide)
  have e6 := r2.frozen 0
  have e7 := r2.frozen 1
  have n2' : ¬ gr = gz := fun e => n2 e.symm
  clear c0 c1 d0 d1 hHeld
  go_wp2_with fail
  have hO := p8.lt
  have nzo : gz ≠ bo := by have := p6; simp at this; omega
  have nro : gr ≠ bo := by have := p6; simp at this; omega
  have nzb : gz ≠ br := by have := p7; simp at this; omega
  have nrb : gr ≠ br := by have := p7; simp at this; omega
  obtain ⟨W, hW⟩ : ∃ W, W = (((w2.setCell ⟨gz, 0, none⟩ (.bool false)).setCell ⟨gz, 1, none⟩ (.slice (some ⟨bo, 0, none⟩) L mo)).setCell ⟨gr, 0, none⟩ (.bool false)).setCell ⟨gr, 1, none⟩ (.slice (some ⟨br, 0, none⟩) n' mr) := ⟨_, rfl⟩
  rw [← hW]
  have k3 : Kept2 w W gz gr := by
    rw [hW]
    exact ((((Kept2.refl w gz gr).below hb2).left (grown_here (grown_here (World.grownBy.refl w2 _) 0 _) 1 _)).right (grown_here (grown_here (World.grownBy.refl _ _) 0 _) 1 _))
  have z3 : W.rowIs gz 32 2 (two (.bool false) (.slice (some ⟨bo, 0, none⟩) L mo)) := by
    rw [hW]; exact ((two_of z2 _ _).setOther n2 _).setOther n2 _
  have r3 : W.rowIs gr 32 2 (two (.bool false) (.slice (some ⟨br, 0, none⟩) n' mr)) := by
    rw [hW]; exact two_of ((r2.setOther n2' _).setOther n2' _) _ _
  have o3 : W.rowIs bo 81 mo (fun j => .int .u32 (O j)) := by
    rw [hW]; exact (((p8.setOther (fun e => nzo e.symm) _).setOther (fun e => nzo e.symm) _).setOther (fun e => nro e.symm) _).setOther (fun e => nro e.symm) _
  have b3 : W.rowIs br 81 mr (fun j => .int .u32 (R j)) := by
    rw [hW]; exact (((p9.setOther (fun e => nzb e.symm) _).setOther (fun e => nzb e.symm) _).setOther (fun e => nrb e.symm) _).setOther (fun e => nrb e.symm) _
  clear hW e0 e1 e2 e3 e4 e5 e6 e7
  have hfx : Fits (val n f) := Fits.of (val_lt hs) (by show n ≤ 100000; exact hn)
  refine (trim_raw gz false (some ⟨bo, 0, none⟩) L mo O W z3 p2 (by omega) (NewRow.dig o3 p2) p10 (by rw [p12a]; exact hfx.le (Nat.div_le_self _ _))).mono ?_
  rintro e w4 ⟨rfl, g4, i4⟩
  have r4 := r3.of_block (g4.block gr r3.lt (by simp [n2']))
  have b4 := b3.of_block (g4.block br b3.lt (by simp [Ne.symm nzb]))
  go_wp2_with fail
  refine (trim_raw gr false (some ⟨br, 0, none⟩) n' mr R w4 r4 p4 (by omega) (NewRow.dig b4 p4) p11 (by rw [p12b]; exact hfx.le (Nat.mod_le _ _))).mono ?_
  rintro e w5 ⟨rfl, g5, i5⟩
  go_wp2_with fail
  rw [p12a] at i4
  rw [p12b] at i5
  exact bodyPost_ret (v := .tuple #[.pointer (some ⟨gz, 0, none⟩), .pointer (some ⟨gr, 0, none⟩)]) (by simp [results, Try.results68, go_sem]) rfl
    ⟨rfl, (k3.left g4).right g5, i4.only ⟨_, r4⟩ g5 n2, i5⟩
end Go.Proofs.Ytfopcipapphogaa
