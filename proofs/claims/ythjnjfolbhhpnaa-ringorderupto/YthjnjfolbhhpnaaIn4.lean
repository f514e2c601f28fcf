/- slices.Grow of nil and slices.Concat of two slices of ints. -/
import Derived.Test.YthjnjfolbhhpnaaIn3
import Derived.Lib.AppendZeros
namespace Go.Proofs.Ythjnjfolbhhpnaa
open Go.RowKit Go.Maps

theorem under_i64 : Try.prog.underlying 3 = some (.int .i64) := by kernel_rfl
theorem zero_cells (z : Array Value) (n : Nat) (hz : z.size = 1) : (Builtin.zeroCells z n).size = n := by
  simp [Builtin.zeroCells, hz]
theorem grow_cells {w : World} {n : Nat} (h0 : 0 < n) (hn : n * 8 ≤ 281474976710656) :
    ∃ cap W, (∀ ty, (Builtin.append_ #[22, 3] ty #[.slice none 0 0, .int .i64 (n : Int)]).run Try.prog w = .ok (.slice (some ⟨w.heap.size, 0, none⟩) n cap) W) ∧ Fifo w.heap.size W (some ⟨w.heap.size, 0, none⟩) [] cap ∧ n ≤ cap ∧ Below w.heap.size w W := by
  obtain ⟨i0, hi, hz0, hz1, hz2⟩ := info_parts info_i64
  have hr := fun ty => Lib.run_append_nil_zeros (P := Try.prog) w 22 3 ty 3 i0 _ .i64 .i64 under_ints under_i64 hi hz0 n h0 (by omega) (by omega) (by rw [hz2]; omega)
  have hG := grownCap_ge w n 0 3
  have hG2 := grownCap_le_maxLen w n 0 3 (by simp only [maxLen]; omega)
  refine ⟨_, _, hr, ?_, hG, ((Below.refl _ w).drew).alloc (Nat.le_refl _) _⟩
  refine ⟨Nat.zero_le _, hG2, fun _ => ⟨w.heap.size, 0, grownCap w n 0 3, fun i => (Builtin.zeroCells (Value.int .i64 0).cells n ++ Builtin.zeroCells (Value.int .i64 0).cells (grownCap w n 0 3 - n)).getD i undef, rfl, Nat.le_refl _, ⟨_, heap_alloc_new w.drew _, ?_, fun i hi => ?_⟩, by omega, fun j x hx => by simp at hx⟩, fun g hg => ?_⟩
  · rw [Array.size_append, zero_cells _ _ rfl, zero_cells _ _ rfl]
    omega
  · have hs : (Builtin.zeroCells (Value.int .i64 0).cells n ++ Builtin.zeroCells (Value.int .i64 0).cells (grownCap w n 0 3 - n)).size = grownCap w n 0 3 := by
      rw [Array.size_append, zero_cells _ _ rfl, zero_cells _ _ rfl]
      omega
    dsimp only
    rw [Array.getD_eq_getD_getElem?, Array.getElem?_eq_getElem (by omega)]; rfl
  · obtain ⟨a, e, rfl⟩ := hg
    injection e with e
    subst e
    refine ⟨Nat.le_refl _, ?_⟩
    exact (Array.getElem?_eq_some_iff.1 (heap_alloc_new w.drew (.cells (Builtin.zeroCells (Value.int .i64 0).cells n ++ Builtin.zeroCells (Value.int .i64 0).cells (grownCap w n 0 3 - n)) 3))).1

set_option maxHeartbeats 1000000 in
theorem grow_nilI {w : World} {n : Nat} (hn : n * 8 ≤ 281474976710656) :
    Calls Try.prog 25 #[.slice none 0 0, .int .i64 (n : Int)] w fun e w' => ∃ A cap, e = .returned (.slice A 0 cap) ∧ Fifo w.heap.size w' A [] cap ∧ Below w.heap.size w w' := by
  by_cases h0 : n = 0
  · subst h0
    go_enter Try.func25, Try.ntmps25
    go_wp2
    go_ret
    exact ⟨none, 0, rfl, Fifo.nil _ _, Below.refl _ _⟩
  · obtain ⟨cap, W, hr, h1, hc, h2⟩ := grow_cells (w := w) (n := n) (by omega) hn
    have HX := Lib.hid (And.intro h1 h2)
    have i1 : ¬ ((n : Int) < 0) := by omega
    have i2 : (0 : Int) < (n : Int) := by omega
    clear h1 h2 hc
    go_enter Try.func25, Try.ntmps25
    go_wp2_with (at_builtin; refine wpList_append_eq rfl (.tmp 20) (.tmp 21) 22 3 rfl rfl rfl (hr _) ?_)
    go_ret
    exact ⟨_, _, rfl, HX.out.1, HX.out.2⟩

/-- The second loop: what it has made so far. -/
structure CatI (w : World) (A1 A2 : Option Addr) (c1 c2 : Nat) (xs ys : List Int) (kb : Nat) (us : List Int) (A : Option Addr) (cap : Nat) (W : World) : Prop where
  own : Fifo w.heap.size W A us cap
  src1 : IntsIn W A1 xs
  src2 : IntsIn W A2 ys
  cell0 : W.cell? ⟨kb, 0, none⟩ = some (.slice A1 xs.length c1)
  cell1 : W.cell? ⟨kb, 1, none⟩ = some (.slice A2 ys.length c2)
  below : Below w.heap.size w W
theorem CatI.step {w : World} {A1 A2 A' A : Option Addr} {c1 c2 c' c : Nat} {xs ys zs : List Int} {kb : Nat} {us : List Int} {W : World} (hw1 : IntsIn w A1 xs) (hw2 : IntsIn w A2 ys) (h0 : w.cell? ⟨kb, 0, none⟩ = some (.slice A1 xs.length c1)) (h1 : w.cell? ⟨kb, 1, none⟩ = some (.slice A2 ys.length c2))
    (h : CatI w A1 A2 c1 c2 xs ys kb us A c W) (hs : IntsIn W A' zs) (hn : (us.length + zs.length) * 8 ≤ 140737488355328) :
    ∃ A3 c3 W', (∀ ty, (Builtin.append_ #[22, 22] ty #[.slice A us.length c, .slice A' zs.length c']).run Try.prog W = .ok (.slice A3 (us.length + zs.length) c3) W') ∧ Hid (CatI w A1 A2 c1 c2 xs ys kb (us ++ zs) A3 c3 W') := by
  obtain ⟨A3, c3, W', hr, k1, k3, k2⟩ := fifo_app h.own hs c' h.below.size hn
  have hb := h.below.trans (k3.below h.below.size (fun k hk => (h.own.ab k hk).1))
  have hk := World.block_lt_of_cell? _ _ h0
  exact ⟨A3, c3, W', hr, Lib.hid ⟨k1, hw1.below hb, hw2.below hb, (hb.cell (p := ⟨kb, 0, none⟩) hk).trans h0, (hb.cell (p := ⟨kb, 1, none⟩) hk).trans h1, hb⟩⟩

set_option maxRecDepth 100000 in
set_option maxHeartbeats 4000000 in
theorem concat_ints {w : World} {A1 A2 : Option Addr} {cap1 cap2 : Nat} {xs ys : List Int} {kb : Nat} (h1 : IntsIn w A1 xs) (h2 : IntsIn w A2 ys) (hn : (xs.length + ys.length) * 8 ≤ 140737488355328) (hc0 : w.cell? ⟨kb, 0, none⟩ = some (.slice A1 xs.length cap1)) (hc1 : w.cell? ⟨kb, 1, none⟩ = some (.slice A2 ys.length cap2)) :
    Calls Try.prog 17 #[.slice (some ⟨kb, 0, none⟩) 2 2] w fun e w' => ∃ A cap, e = .returned (.slice A (xs.length + ys.length) cap) ∧ Fifo w.heap.size w' A (xs ++ ys) cap ∧ Below w.heap.size w w' := by
  obtain ⟨p, hp⟩ : ∃ p, xs.length = p := ⟨_, rfl⟩
  obtain ⟨q, hq⟩ : ∃ q, ys.length = q := ⟨_, rfl⟩
  have HS1 := Lib.hid (fun (A : Option Addr) (c : Nat) (W : World) (h : CatI w A1 A2 cap1 cap2 xs ys kb [] A c W) => h.step h1 h2 hc0 hc1 (c' := cap1) h.src1 (by simp; omega))
  have HS2 := Lib.hid (fun (A : Option Addr) (c : Nat) (W : World) (h : CatI w A1 A2 cap1 cap2 xs ys kb ([] ++ xs) A c W) => h.step h1 h2 hc0 hc1 (c' := cap2) h.src2 (by simp; omega))
  have HG := Lib.hid (fun (A : Option Addr) (c : Nat) (W : World) (a : Fifo w.heap.size W A [] c) (hb : Below w.heap.size w W) => (show CatI w A1 A2 cap1 cap2 xs ys kb [] A c W from by
    have hk := World.block_lt_of_cell? _ _ hc0
    exact ⟨a, h1.below hb, h2.below hb, (hb.cell (p := ⟨kb, 0, none⟩) hk).trans hc0, (hb.cell (p := ⟨kb, 1, none⟩) hk).trans hc1, hb⟩))
  have HC0 := Lib.hid (fun (us : List Int) (A : Option Addr) (c : Nat) (W : World) (h : CatI w A1 A2 cap1 cap2 xs ys kb us A c W) => And.intro h.cell0 h.cell1)
  rw [hp] at hc0 HS1 HC0 hn
  rw [hq] at hc1 HS2 HC0 hn
  have HP := Lib.hid hp
  have HQ := Lib.hid hq
  clear h1 h2
  rw [hp, hq]
  clear hp hq
  have HGR := Lib.hid (grow_nilI (w := w) (n := p + q) (by omega))
  go_enter Try.func17, Try.ntmps17
  go_wp2
  go_loopg [3, 11] 2 (fun k s c wr => wr = w ∧ ((k = 2 ∧ s = .int .i64 0 ∧ c = .int .i64 0) ∨ (k = 1 ∧ s = .int .i64 (p : Int) ∧ c = .int .i64 1) ∨ (k = 0 ∧ s = .int .i64 ((p + q : Nat) : Int) ∧ c = .int .i64 2)))
  case atStart => exact ⟨rfl, .inl ⟨rfl, rfl, rfl⟩⟩
  case round =>
    obtain ⟨hwr, ⟨rfl, rfl, rfl⟩ | ⟨rfl, rfl, rfl⟩ | ⟨rfl, rfl, rfl⟩⟩ := hrel
    · subst hwr
      go_wp2
      go_roundg 1
      case measure => omega
      case rel => exact ⟨rfl, .inr (.inl ⟨rfl, by go_num, rfl⟩)⟩
    · subst hwr
      go_wp2
      go_roundg 0
      case measure => omega
      case rel => exact ⟨rfl, .inr (.inr ⟨rfl, by go_num, rfl⟩)⟩
    · subst hwr
      clear hc0 hc1
      go_wp2_with fail
      refine HGR.out.mono ?_
      rintro e w1 ⟨A0, c0, rfl, g1, g2⟩
      have HS0 := Lib.hid (HG.out A0 c0 w1 g1 g2)
      clear g1 g2
      go_wp2
      go_loopg [6, 27] 2 (fun k v c wz => ∃ A a, (k = 2 ∧ c = .int .i64 0 ∧ v = .slice A 0 a ∧ Hid (CatI wr A1 A2 cap1 cap2 xs ys kb [] A a wz)) ∨ (k = 1 ∧ c = .int .i64 1 ∧ v = .slice A p a ∧ Hid (CatI wr A1 A2 cap1 cap2 xs ys kb ([] ++ xs) A a wz)) ∨ (k = 0 ∧ c = .int .i64 2 ∧ v = .slice A (p + q) a ∧ Hid (CatI wr A1 A2 cap1 cap2 xs ys kb (([] ++ xs) ++ ys) A a wz)))
      case atStart => exact ⟨A0, c0, .inl ⟨rfl, rfl, rfl, HS0⟩⟩
      case round =>
        clear HS0
        obtain ⟨A, a, ⟨rfl, rfl, rfl, HI⟩ | ⟨rfl, rfl, rfl, HI⟩ | ⟨rfl, rfl, rfl, HI⟩⟩ := hrel
        · obtain ⟨A3, c3, W', hr, HN⟩ := HS1.out _ _ _ HI.out
          have d0 := (HC0.out _ _ _ _ HI.out).1
          simp only [List.length_nil, Nat.zero_add] at hr
          have HR := Lib.hid hr
          clear HI hr
          go_wp2_with (at_builtin; refine wpList_append_eq rfl (.tmp 31) (.tmp 32) 22 22 rfl rfl rfl (HR.out _) ?_)
          go_roundg 1
          case measure => omega
          case rel => exact ⟨A3, c3, .inr (.inl ⟨rfl, rfl, rfl, HN⟩)⟩
        · obtain ⟨A3, c3, W', hr, HN⟩ := HS2.out _ _ _ HI.out
          have d0 := (HC0.out _ _ _ _ HI.out).2
          rw [List.nil_append, HP.out] at hr
          have HR := Lib.hid hr
          clear HI hr
          go_wp2_with (at_builtin; refine wpList_append_eq rfl (.tmp 31) (.tmp 32) 22 22 rfl rfl rfl (HR.out _) ?_)
          go_roundg 0
          case measure => omega
          case rel => exact ⟨A3, c3, .inr (.inr ⟨rfl, rfl, rfl, HN⟩)⟩
        · go_wp2
          go_ret
          exact ⟨A, a, rfl, HI.out.own, HI.out.below⟩
/-- .. of two slices that are laid side by side just ahead. -/
theorem concat_pair {w : World} {A1 A2 : Option Addr} {cap1 cap2 : Nat} {xs ys : List Int} (h1 : IntsIn w A1 xs) (h2 : IntsIn w A2 ys) (hn : (xs.length + ys.length) * 8 ≤ 140737488355328) :
    Calls Try.prog 17 #[.slice (some ⟨w.heap.size, 0, none⟩) 2 2] (w.alloc (.cells #[.slice A1 xs.length cap1, .slice A2 ys.length cap2] 22)) fun e w' =>
      ∃ A cap, e = .returned (.slice A (xs.length + ys.length) cap) ∧ Fifo w.heap.size w' A (xs ++ ys) cap ∧ Below w.heap.size w w' := by
  have hb : Below w.heap.size w (w.alloc (.cells #[.slice A1 xs.length cap1, .slice A2 ys.length cap2] 22)) := (Below.refl _ _).alloc (Nat.le_refl _) _
  refine (concat_ints (h1.below hb) (h2.below hb) hn (kb := w.heap.size) (cell_of_row _ _ 0 _ _ _ (heap_alloc_new w _)) (cell_of_row _ _ 1 _ _ _ (heap_alloc_new w _))).mono ?_
  rintro e w' ⟨A, cap, rfl, k1, k2⟩
  exact ⟨A, cap, rfl, k1.mono hb.size, hb.trans (k2.mono hb.size)⟩
end Go.Proofs.Ythjnjfolbhhpnaa
