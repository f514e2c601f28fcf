/- slices.Concat of two slices of numbers; slices.Grow of nil. -/
import Derived.Test.YtbckppflfgdblaaHp41
namespace Go.Proofs.Ytbckppflfgdblaa
open Go.RowKit Go.Maps

theorem grow_cells {w : World} {n : Nat} (h0 : 0 < n) (hn : n ≤ 100000000) :
    ∃ cap W, (∀ ty, (Builtin.append_ #[24, 3] ty #[.slice none 0 0, .int .i64 (n : Int)]).run Try.prog w = .ok (.slice (some ⟨w.heap.size, 0, none⟩) n cap) W) ∧ NumsIs 3 w.heap.size W (.slice (some ⟨w.heap.size, 0, none⟩) 0 cap) [] ∧ Below w.heap.size w W := by
  obtain ⟨i0, hi, hz0, hz1, hz2⟩ := info_parts Try.info3
  have hr := fun ty => Lib.run_append_grow_zeros (P := Try.prog) w 24 3 ty 3 i0 _ .i64 .i64 Try.underlying24 Try.underlying3 hi hz0 none 0 0 [] (run_firstCells_none _ _ _ _ _) n h0 (by omega) (by omega) (by omega) (by rw [hz2]; omega)
    (growslice_fits (by omega) (by rw [hz2]; omega))
  rw [Nat.zero_add] at hr
  have hG := grownCap_ge w n 0 3
  have hG2 := grownCap_le_maxLen w n 0 3 (by simp only [maxLen]; omega)
  refine ⟨_, _, hr, ?_, ((Below.refl _ w).drew).alloc (Nat.le_refl _) _⟩
  refine ⟨rfl, .inr ⟨w.heap.size, _, _, rfl, Nat.le_refl _, heap_alloc_new w.drew _, Nat.zero_le _, hG2, ?_, ?_⟩⟩
  · simp [Builtin.zeroCells, Value.cells]
    omega
  · simp [ints]

set_option maxHeartbeats 1000000 in
theorem grow_nil {w : World} {n : Nat} (hn : n ≤ 100000000) :
    Calls Try.prog 29 #[.slice none 0 0, .int .i64 (n : Int)] w fun e w' => ∃ v, e = .returned v ∧ NumsIs 3 w.heap.size w' v [] ∧ Below w.heap.size w w' := by
  by_cases h0 : n = 0
  · subst h0
    go_enter Try.func29, Try.ntmps29
    go_wp2
    go_ret
    exact ⟨_, rfl, World.ownsRow_nil _ _ _ _, Below.refl _ _⟩
  · obtain ⟨cap, W, hr, h1, h2⟩ := grow_cells (w := w) (n := n) (by omega) hn
    have HX := Lib.hid (And.intro h1 h2)
    have i1 : ¬ ((n : Int) < 0) := by omega
    have i2 : (0 : Int) < (n : Int) := by omega
    clear h1 h2
    go_enter Try.func29, Try.ntmps29
    go_wp2_with (at_builtin; refine wpList_zeros_eq rfl (.tmp 20) (.tmp 21) 24 3 rfl rfl rfl (hr _) ?_)
    go_ret
    exact ⟨_, rfl, HX.out⟩

theorem append_empty {B : Nat} {w : World} {v : Value} {us : List Int} (h : NumsIs 3 B w v us) : (Builtin.append_ #[24, 24] 24 #[v, .slice none 0 0]).run Try.prog w = .ok v w := by
  obtain ⟨i0, hi, hz0, hz1, hz2⟩ := info_parts Try.info3
  rcases h.2 with ⟨rfl, h0⟩ | ⟨g, cap, cur, rfl, _, _, hc, _⟩
  · simp [Builtin.append_, run_underlying Try.underlying24, sizeOf, typeInfo, hi, Builtin.lenOf, Builtin.firstCells]
  · simp [Builtin.append_, run_underlying Try.underlying24, sizeOf, typeInfo, hi, hc, Builtin.lenOf, Builtin.firstCells, storeCells]
theorem cat_step {B B' : Nat} {w : World} {v s : Value} {us xs : List Int} (h : NumsIs 3 B w v us) (hs : NumsIs 3 B' w s xs) (hB : B ≤ w.heap.size) (hn : us.length + xs.length ≤ 100000000) :
    ∃ v' W, (Builtin.append_ #[24, 24] 24 #[v, s]).run Try.prog w = .ok v' W ∧ NumsIs 3 B W v' (us ++ xs) ∧ Below B w W := by
  rcases hs.2 with ⟨rfl, h0⟩ | ⟨g, cap, cur, rfl, _⟩
  · obtain rfl := List.eq_nil_of_length_eq_zero h0
    exact ⟨v, w, append_empty h, by rw [List.append_nil]; exact h, Below.refl _ _⟩
  · obtain ⟨i0, hi, hz0, hz1, hz2⟩ := info_parts Try.info3
    obtain ⟨v', W, hr, h2, h3, _, _⟩ := run_append_own_at (P := Try.prog) w B 24 24 3 i0 _ 1 8 Try.underlying24 hi hz0 hz1 hz2 rfl (by decide) v us.length (ints us) h
      ⟨g, 0, none⟩ xs.length cap (ints xs) (by simp [ints]) (fun j u hu => World.ownsRow.cells hs rfl j u hu) (by intro u hu; simp only [ints, List.mem_map] at hu; obtain ⟨y, _, rfl⟩ := hu; rfl) (by simp only [maxLen]; omega) (by omega) hB
    refine ⟨v', W, hr, ?_, (Chg.of_grown (S := fun k => v.ownBlock = some k) h3 (fun k e => e)).below hB (fun k e => (World.ownsRow.lt h k e).1)⟩
    unfold NumsIs
    have e : ints (us ++ xs) = ints us ++ ints xs := by simp [ints]
    rw [e, List.length_append]
    exact h2

/-- The second loop: what it has made so far. -/
structure Catted (w : World) (v1 v2 : Value) (xs ys : List Int) (kb : Nat) (us : List Int) (v : Value) (W : World) : Prop where
  own : NumsIs 3 w.heap.size W v us
  src1 : ∃ B, NumsIs 3 B W v1 xs
  src2 : ∃ B, NumsIs 3 B W v2 ys
  c0 : W.cell? ⟨kb, 0, none⟩ = some v1
  c1 : W.cell? ⟨kb, 1, none⟩ = some v2
  below : Below w.heap.size w W
theorem Catted.step {w : World} {v1 v2 : Value} {xs ys : List Int} {kb : Nat} {us : List Int} {v : Value} {W : World} (hw1 : ∃ B, NumsIs 3 B w v1 xs) (hw2 : ∃ B, NumsIs 3 B w v2 ys) (h0 : w.cell? ⟨kb, 0, none⟩ = some v1) (h1 : w.cell? ⟨kb, 1, none⟩ = some v2) (h : Catted w v1 v2 xs ys kb us v W) {s : Value} {zs : List Int} (hs : ∃ B, NumsIs 3 B W s zs) (hn : us.length + zs.length ≤ 100000000) :
    ∃ v' W', (Builtin.append_ #[24, 24] 24 #[v, s]).run Try.prog W = .ok v' W' ∧ Hid (Catted w v1 v2 xs ys kb (us ++ zs) v' W') := by
  obtain ⟨B, hs⟩ := hs
  obtain ⟨v', W', hr, k1, k2⟩ := cat_step h.own hs h.below.size hn
  have hb := h.below.trans k2
  obtain ⟨B1, hw1⟩ := hw1
  obtain ⟨B2, hw2⟩ := hw2
  have hk := World.block_lt_of_cell? _ _ h0
  exact ⟨v', W', hr, Lib.hid ⟨k1, ⟨B1, hw1.below hb⟩, ⟨B2, hw2.below hb⟩, (hb.cell (p := ⟨kb, 0, none⟩) hk).trans h0, (hb.cell (p := ⟨kb, 1, none⟩) hk).trans h1, hb⟩⟩

set_option maxRecDepth 100000 in
set_option maxHeartbeats 4000000 in
theorem concat_ints {w : World} {v1 v2 : Value} {xs ys : List Int} {kb : Nat} (h1 : ∃ B, NumsIs 3 B w v1 xs) (h2 : ∃ B, NumsIs 3 B w v2 ys) (hc0 : w.cell? ⟨kb, 0, none⟩ = some v1) (hc1 : w.cell? ⟨kb, 1, none⟩ = some v2) (hn : xs.length + ys.length ≤ 100000000) :
    Calls Try.prog 16 #[.slice (some ⟨kb, 0, none⟩) 2 2] w fun e w' => ∃ v, e = .returned v ∧ NumsIs 3 w.heap.size w' v (xs ++ ys) ∧ Below w.heap.size w w' := by
  have HST := Lib.hid (fun (us : List Int) (v : Value) (W : World) (h : Catted w v1 v2 xs ys kb us v W) => And.intro (fun hl => h.step h1 h2 hc0 hc1 h.src1 hl) (fun hl => h.step h1 h2 hc0 hc1 h.src2 hl))
  have HG := Lib.hid (fun (v : Value) (W : World) (a : NumsIs 3 w.heap.size W v []) (hb : Below w.heap.size w W) => (show Catted w v1 v2 xs ys kb [] v W from by
    have hk := World.block_lt_of_cell? _ _ hc0
    obtain ⟨B1, k1⟩ := h1
    obtain ⟨B2, k2⟩ := h2
    exact ⟨a, ⟨B1, k1.below hb⟩, ⟨B2, k2.below hb⟩, (hb.cell (p := ⟨kb, 0, none⟩) hk).trans hc0, (hb.cell (p := ⟨kb, 1, none⟩) hk).trans hc1, hb⟩))
  obtain ⟨B1, k1⟩ := h1
  obtain ⟨B2, k2⟩ := h2
  obtain ⟨A1, cap1, rfl, _⟩ := k1.form
  obtain ⟨A2, cap2, rfl, _⟩ := k2.form
  obtain ⟨p, hp⟩ : ∃ p, xs.length = p := ⟨_, rfl⟩
  obtain ⟨q, hq⟩ : ∃ q, ys.length = q := ⟨_, rfl⟩
  rw [hp] at hc0 HST HG hn
  rw [hq] at hc1 HST HG hn
  have HP := Lib.hid hp
  have HQ := Lib.hid hq
  clear k1 k2 hp hq
  have HGR := Lib.hid (grow_nil (w := w) (n := p + q) hn)
  go_enter Try.func16, Try.ntmps16
  go_wp2
  go_loopg [3, 11] 2 (fun k s c wr => wr = w ∧ ((k = 2 ∧ s = .int .i64 0 ∧ c = .int .i64 0) ∨ (k = 1 ∧ s = .int .i64 (p : Int) ∧ c = .int .i64 1) ∨ (k = 0 ∧ s = .int .i64 ((p + q : Nat) : Int) ∧ c = .int .i64 2)))
  case atStart => exact ⟨rfl, .inl ⟨rfl, rfl, rfl⟩⟩
  case round =>
    obtain ⟨hwr, ⟨rfl, rfl, rfl⟩ | ⟨rfl, rfl, rfl⟩ | ⟨rfl, rfl, rfl⟩⟩ := hrel
    · subst hwr
      go_wp2
      go_roundg 1
      case measure => omega
      case rel => exact ⟨rfl, .inr (.inl ⟨rfl, by go_num, rfl⟩)⟩
    · subst hwr
      go_wp2
      go_roundg 0
      case measure => omega
      case rel => exact ⟨rfl, .inr (.inr ⟨rfl, by go_num, rfl⟩)⟩
    · subst hwr
      clear hc0 hc1
      go_wp2_with fail
      refine HGR.out.mono ?_
      rintro e w1 ⟨v0, rfl, g1, g2⟩
      have HC0 := Lib.hid (HG.out v0 w1 g1 g2)
      clear g1 g2
      go_wp2
      go_loopg [6, 27] 2 (fun k v c wz => (k = 2 ∧ c = .int .i64 0 ∧ Hid (Catted wr (.slice A1 p cap1) (.slice A2 q cap2) xs ys kb [] v wz)) ∨ (k = 1 ∧ c = .int .i64 1 ∧ Hid (Catted wr (.slice A1 p cap1) (.slice A2 q cap2) xs ys kb xs v wz)) ∨ (k = 0 ∧ c = .int .i64 2 ∧ Hid (Catted wr (.slice A1 p cap1) (.slice A2 q cap2) xs ys kb (xs ++ ys) v wz)))
      case atStart => exact .inl ⟨rfl, rfl, HC0⟩
      case round =>
        clear HC0
        obtain ⟨rfl, rfl, HI⟩ | ⟨rfl, rfl, HI⟩ | ⟨rfl, rfl, HI⟩ := hrel
        · obtain ⟨v', W', hr, HN⟩ := (HST.out _ _ _ HI.out).1 (by simp; omega)
          have d0 := HI.out.c0
          clear HI
          go_wp2_with (at_builtin; refine wpList_append_eq rfl (.tmp 31) (.tmp 32) 24 rfl rfl rfl hr ?_)
          go_roundg 1
          case measure => omega
          case rel => exact .inr (.inl ⟨rfl, rfl, HN⟩)
        · obtain ⟨v', W', hr, HN⟩ := (HST.out _ _ _ HI.out).2 (by rw [HP.out]; exact hn)
          have d0 := HI.out.c1
          clear HI
          go_wp2_with (at_builtin; refine wpList_append_eq rfl (.tmp 31) (.tmp 32) 24 rfl rfl rfl hr ?_)
          go_roundg 0
          case measure => omega
          case rel => exact .inr (.inr ⟨rfl, rfl, HN⟩)
        · go_wp2
          go_ret
          exact ⟨_, rfl, HI.out.own, HI.out.below⟩

end Go.Proofs.Ytbckppflfgdblaa
