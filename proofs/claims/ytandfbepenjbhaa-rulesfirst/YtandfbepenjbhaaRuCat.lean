/- slices.Concat of two slices of rules. -/
import Derived.Test.YtandfbepenjbhaaRu8
import Derived.Test.YtandfbepenjbhaaRuRow
import Derived.Lib.AppendZeros
namespace Go.Proofs.Ytandfbepenjbhaa
open Go.RowKit Go.Maps

theorem under_int : Try.prog.underlying 3 = some (.int .i64) := by kernel_rfl
/-- There is room for N rules in all. -/
def Roomy (v : Value) (N : Nat) : Prop := N = 0 ∨ ∃ g n cap, v = .slice (some ⟨g, 0, none⟩) n cap ∧ N ≤ cap
theorem append_empty {B : Nat} {w : World} {v : Value} {us : List Ru} (h : OwnRus B w v us) (ty : TypeId) : (Builtin.append_ #[22, 22] ty #[v, .slice none 0 0]).run Try.prog w = .ok v w := by
  obtain ⟨i0, hi, hz0, hz1, hz2⟩ := info_parts info_ru
  rcases h.2 with ⟨rfl, h0⟩ | ⟨g, cap, cur, rfl, _, _, hc, _⟩
  · simp [Builtin.append_, run_underlying under_rus, sizeOf, typeInfo, hi, Builtin.lenOf, Builtin.firstCells]
  · simp [Builtin.append_, run_underlying under_rus, sizeOf, typeInfo, hi, hc, Builtin.lenOf, Builtin.firstCells, storeCells]
theorem cat_step {B N cap : Nat} {w : World} {v : Value} {us xs : List Ru} {A : Option Addr} (h : OwnRus B w v us) (hR : Roomy v N) (hs : CameR w A cap xs) (hn : us.length + xs.length ≤ N) :
    ∃ v' W, (∀ ty, (Builtin.append_ #[22, 22] ty #[v, .slice A xs.length cap]).run Try.prog w = .ok v' W) ∧ OwnRus B W v' (us ++ xs) ∧ Roomy v' N ∧ Below B w W := by
  cases A with
  | none =>
    obtain ⟨rfl, rfl⟩ := hs.nil rfl
    exact ⟨v, w, append_empty h, by rw [List.append_nil]; exact h, hR, Below.refl _ _⟩
  | some a =>
    rcases hR with rfl | ⟨g, m, c, rfl, hN⟩
    · have hu : us = [] := List.eq_nil_of_length_eq_zero (by omega)
      have hx : xs = [] := List.eq_nil_of_length_eq_zero (by omega)
      subst hu hx
      refine ⟨v, w, fun ty => ?_, h, .inl rfl, Below.refl _ _⟩
      obtain ⟨i0, hi, hz0, hz1, hz2⟩ := info_parts info_ru
      have hfc := run_firstCells_some (P := Try.prog) w i0.size 0 a 0 cap [] (by simp) (fun j u hu => by cases hu)
      rcases h.2 with ⟨rfl, h0⟩ | ⟨g, cap', cur, rfl, _, _, hc, _⟩
      · simp [Builtin.append_, run_underlying under_rus, sizeOf, typeInfo, hi, Builtin.lenOf, hfc]
      · simp [Builtin.append_, run_underlying under_rus, sizeOf, typeInfo, hi, Builtin.lenOf, hfc, storeCells]
    · obtain ⟨i0, hi, hz0, hz1, hz2⟩ := info_parts info_ru
      rcases h.2 with ⟨e, _⟩ | ⟨g', c', cur, e, hBg, hg, hnc, hcm, hcs, ht⟩
      · cases e
      · injection e with e1 e2 e3
        injection e1 with e1
        injection e1 with e1
        subst e1 e2 e3
        have hl : (ruCells xs).length = xs.length * i0.size := by rw [hz1, ruCells_length]
        have hr := fun ty => run_append_room (P := Try.prog) w 22 ty 32 i0 under_rus hi g us.length c cur hg a xs.length cap (ruCells xs) hl (rus_news hs.lies) (ru_one xs) (by omega) (by rw [hz1, ruCells_length]; omega)
        refine ⟨_, _, hr, ?_, .inr ⟨g, _, c, rfl, hN⟩, ⟨rfl, rfl, rfl, by simp, fun k hk => setRow_other w g k _ (by omega)⟩⟩
        unfold OwnRus
        rw [ruCells_append, List.length_append]
        refine ⟨by rw [List.length_append, ruCells_length, ruCells_length]; omega, .inr ⟨g, c, _, rfl, hBg, setRow_heap w g cur _ _ _ hg, by omega, hcm, ?_, ?_⟩⟩
        · simp only [List.size_toArray, List.length_append, List.length_take, List.length_drop, Array.length_toList, ruCells_length, hz1]
          omega
        · rw [hz1, ht]
          have hl2 : (us.length + xs.length) * 14 = (ruCells us ++ ruCells xs).length := by rw [List.length_append, ruCells_length, ruCells_length]; omega
          rw [hl2]
          exact List.take_left
theorem zero_cells (z : Array Value) (n : Nat) (hz : z.size = 14) : (Builtin.zeroCells z n).size = n * 14 := by
  simp [Builtin.zeroCells, hz]
theorem grow_cells {w : World} {n : Nat} (h0 : 0 < n) (hn : n * 56 ≤ 281474976710656) :
    ∃ cap W, (∀ ty, (Builtin.append_ #[22, 3] ty #[.slice none 0 0, .int .i64 (n : Int)]).run Try.prog w = .ok (.slice (some ⟨w.heap.size, 0, none⟩) n cap) W) ∧ OwnRus w.heap.size W (.slice (some ⟨w.heap.size, 0, none⟩) 0 cap) [] ∧ n ≤ cap ∧ Below w.heap.size w W := by
  obtain ⟨i0, hi, hz0, hz1, hz2⟩ := info_parts info_ru
  have hr := fun ty => Lib.run_append_nil_zeros (P := Try.prog) w 22 3 ty 32 i0 _ .i64 .i64 under_rus under_int hi hz0 n h0 (by omega) (by omega) (by rw [hz2]; omega)
  have hG := grownCap_ge w n 0 32
  have hG2 := grownCap_le_maxLen w n 0 32 (by simp only [maxLen]; omega)
  refine ⟨_, _, hr, ?_, hG, ((Below.refl _ w).drew).alloc (Nat.le_refl _) _⟩
  refine ⟨rfl, .inr ⟨w.heap.size, _, _, rfl, Nat.le_refl _, heap_alloc_new w.drew _, Nat.zero_le _, hG2, ?_, ?_⟩⟩
  · rw [Array.size_append, zero_cells _ _ rfl, zero_cells _ _ rfl]
    omega
  · simp [ruCells]

set_option maxHeartbeats 1000000 in
theorem grow_nil {w : World} {n : Nat} (hn : n * 56 ≤ 281474976710656) :
    Calls Try.prog 34 #[.slice none 0 0, .int .i64 (n : Int)] w fun e w' => ∃ v, e = .returned v ∧ OwnRus w.heap.size w' v [] ∧ Roomy v n ∧ Below w.heap.size w w' := by
  by_cases h0 : n = 0
  · subst h0
    go_enter Try.func34, Try.ntmps34
    go_wp2
    go_ret
    exact ⟨_, rfl, World.ownsRow_nil _ _ _ _, .inl rfl, Below.refl _ _⟩
  · obtain ⟨cap, W, hr, h1, hc, h2⟩ := grow_cells (w := w) (n := n) (by omega) hn
    have HX := Lib.hid (And.intro h1 (And.intro (show Roomy (.slice (some ⟨w.heap.size, 0, none⟩) 0 cap) n from .inr ⟨_, _, _, rfl, hc⟩) h2))
    have i1 : ¬ ((n : Int) < 0) := by omega
    have i2 : (0 : Int) < (n : Int) := by omega
    clear h1 h2 hc
    go_enter Try.func34, Try.ntmps34
    go_wp2_with (at_builtin; refine wpList_append_eq rfl (.tmp 20) (.tmp 21) 22 3 rfl rfl rfl (hr _) ?_)
    go_ret
    exact ⟨_, rfl, HX.out⟩

/-- The second loop: what it has made so far. -/
structure CatR (w : World) (A1 A2 : Option Addr) (c1 c2 : Nat) (xs ys : List Ru) (kb N : Nat) (us : List Ru) (v : Value) (W : World) : Prop where
  own : OwnRus w.heap.size W v us
  room : Roomy v N
  src1 : CameR W A1 c1 xs
  src2 : CameR W A2 c2 ys
  cell0 : W.cell? ⟨kb, 0, none⟩ = some (.slice A1 xs.length c1)
  cell1 : W.cell? ⟨kb, 1, none⟩ = some (.slice A2 ys.length c2)
  below : Below w.heap.size w W
theorem CatR.step {w : World} {A1 A2 A : Option Addr} {c1 c2 c : Nat} {xs ys zs : List Ru} {kb N : Nat} {us : List Ru} {v : Value} {W : World} (hw1 : CameR w A1 c1 xs) (hw2 : CameR w A2 c2 ys) (h0 : w.cell? ⟨kb, 0, none⟩ = some (.slice A1 xs.length c1)) (h1 : w.cell? ⟨kb, 1, none⟩ = some (.slice A2 ys.length c2))
    (h : CatR w A1 A2 c1 c2 xs ys kb N us v W) (hs : CameR W A c zs) (hn : us.length + zs.length ≤ N) :
    ∃ v' W', (∀ ty, (Builtin.append_ #[22, 22] ty #[v, .slice A zs.length c]).run Try.prog W = .ok v' W') ∧ Hid (CatR w A1 A2 c1 c2 xs ys kb N (us ++ zs) v' W') := by
  obtain ⟨v', W', hr, k1, k3, k2⟩ := cat_step h.own h.room hs hn
  have hb := h.below.trans k2
  have hk := World.block_lt_of_cell? _ _ h0
  exact ⟨v', W', hr, Lib.hid ⟨k1, k3, hw1.below hb, hw2.below hb, (hb.cell (p := ⟨kb, 0, none⟩) hk).trans h0, (hb.cell (p := ⟨kb, 1, none⟩) hk).trans h1, hb⟩⟩

set_option maxRecDepth 100000 in
set_option maxHeartbeats 4000000 in
theorem concat_rus {w : World} {A1 A2 : Option Addr} {cap1 cap2 : Nat} {xs ys : List Ru} {kb : Nat} (h1 : CameR w A1 cap1 xs) (h2 : CameR w A2 cap2 ys) (hc0 : w.cell? ⟨kb, 0, none⟩ = some (.slice A1 xs.length cap1)) (hc1 : w.cell? ⟨kb, 1, none⟩ = some (.slice A2 ys.length cap2)) :
    Calls Try.prog 18 #[.slice (some ⟨kb, 0, none⟩) 2 2] w (Cloned (xs ++ ys) w) := by
  obtain ⟨p, hp⟩ : ∃ p, xs.length = p := ⟨_, rfl⟩
  obtain ⟨q, hq⟩ : ∃ q, ys.length = q := ⟨_, rfl⟩
  have hs1 := h1.size
  have hs2 := h2.size
  have HST := Lib.hid (fun (us : List Ru) (v : Value) (W : World) (h : CatR w A1 A2 cap1 cap2 xs ys kb (p + q) us v W) => And.intro (fun hl => h.step h1 h2 hc0 hc1 h.src1 hl) (fun hl => h.step h1 h2 hc0 hc1 h.src2 hl))
  have HG := Lib.hid (fun (v : Value) (W : World) (a : OwnRus w.heap.size W v []) (hr : Roomy v (p + q)) (hb : Below w.heap.size w W) => (show CatR w A1 A2 cap1 cap2 xs ys kb (p + q) [] v W from by
    have hk := World.block_lt_of_cell? _ _ hc0
    exact ⟨a, hr, h1.below hb, h2.below hb, (hb.cell (p := ⟨kb, 0, none⟩) hk).trans hc0, (hb.cell (p := ⟨kb, 1, none⟩) hk).trans hc1, hb⟩))
  have HC0 := Lib.hid (fun (us : List Ru) (v : Value) (W : World) (h : CatR w A1 A2 cap1 cap2 xs ys kb (p + q) us v W) => And.intro h.cell0 h.cell1)
  rw [hp] at hc0 HST HC0 hs1
  rw [hq] at hc1 HST HC0 hs2
  have HP := Lib.hid hp
  have HQ := Lib.hid hq
  clear h1 h2 hp hq
  have HGR := Lib.hid (grow_nil (w := w) (n := p + q) (by omega))
  go_enter Try.func18, Try.ntmps18
  go_wp2
  go_loopg [3, 11] 2 (fun k s c wr => wr = w ∧ ((k = 2 ∧ s = .int .i64 0 ∧ c = .int .i64 0) ∨ (k = 1 ∧ s = .int .i64 (p : Int) ∧ c = .int .i64 1) ∨ (k = 0 ∧ s = .int .i64 ((p + q : Nat) : Int) ∧ c = .int .i64 2)))
  case atStart => exact ⟨rfl, .inl ⟨rfl, rfl, rfl⟩⟩
  case round =>
    obtain ⟨hwr, ⟨rfl, rfl, rfl⟩ | ⟨rfl, rfl, rfl⟩ | ⟨rfl, rfl, rfl⟩⟩ := hrel
    · subst hwr
      go_wp2
      go_roundg 1
      case measure => omega
      case rel => exact ⟨rfl, .inr (.inl ⟨rfl, by go_num, rfl⟩)⟩
    · subst hwr
      go_wp2
      go_roundg 0
      case measure => omega
      case rel => exact ⟨rfl, .inr (.inr ⟨rfl, by go_num, rfl⟩)⟩
    · subst hwr
      clear hc0 hc1
      go_wp2_with fail
      refine HGR.out.mono ?_
      rintro e w1 ⟨v0, rfl, g1, g3, g2⟩
      have HS0 := Lib.hid (HG.out v0 w1 g1 g3 g2)
      clear g1 g2 g3
      go_wp2
      go_loopg [6, 27] 2 (fun k v c wz => (k = 2 ∧ c = .int .i64 0 ∧ Hid (CatR wr A1 A2 cap1 cap2 xs ys kb (p + q) [] v wz)) ∨ (k = 1 ∧ c = .int .i64 1 ∧ Hid (CatR wr A1 A2 cap1 cap2 xs ys kb (p + q) xs v wz)) ∨ (k = 0 ∧ c = .int .i64 2 ∧ Hid (CatR wr A1 A2 cap1 cap2 xs ys kb (p + q) (xs ++ ys) v wz)))
      case atStart => exact .inl ⟨rfl, rfl, HS0⟩
      case round =>
        clear HS0
        obtain ⟨rfl, rfl, HI⟩ | ⟨rfl, rfl, HI⟩ | ⟨rfl, rfl, HI⟩ := hrel
        · obtain ⟨v', W', hr, HN⟩ := (HST.out _ _ _ HI.out).1 (by simp)
          have d0 := (HC0.out _ _ _ HI.out).1
          clear HI
          go_wp2_with (at_builtin; refine wpList_append_eq rfl (.tmp 31) (.tmp 32) 22 22 rfl rfl rfl (hr _) ?_)
          go_roundg 1
          case measure => omega
          case rel => exact .inr (.inl ⟨rfl, rfl, HN⟩)
        · obtain ⟨v', W', hr, HN⟩ := (HST.out _ _ _ HI.out).2 (by rw [HP.out]; exact Nat.le_refl _)
          have d0 := (HC0.out _ _ _ HI.out).2
          clear HI
          go_wp2_with (at_builtin; refine wpList_append_eq rfl (.tmp 31) (.tmp 32) 22 22 rfl rfl rfl (hr _) ?_)
          go_roundg 0
          case measure => omega
          case rel => exact .inr (.inr ⟨rfl, rfl, HN⟩)
        · go_wp2
          go_ret
          exact ⟨_, rfl, HI.out.own, HI.out.below⟩
theorem pair_cells (w : World) (v1 v2 : Value) : (w.alloc (.cells #[v1, v2] 22)).cell? ⟨w.heap.size, 0, none⟩ = some v1 ∧ (w.alloc (.cells #[v1, v2] 22)).cell? ⟨w.heap.size, 1, none⟩ = some v2 := by
  refine ⟨?_, ?_⟩ <;> rw [cell_of_row _ w.heap.size _ _ _ _ (heap_alloc_new w _)] <;> rfl
theorem concat_pair {w : World} {A1 A2 : Option Addr} {cap1 cap2 : Nat} {xs ys : List Ru} (h1 : CameR w A1 cap1 xs) (h2 : CameR w A2 cap2 ys) :
    Calls Try.prog 18 #[.slice (some ⟨w.heap.size, 0, none⟩) 2 2] (w.alloc (.cells #[.slice A1 xs.length cap1, .slice A2 ys.length cap2] 22)) fun e w' =>
      ∃ A cap, e = .returned (.slice A (xs.length + ys.length) cap) ∧ RusIn w' A (xs ++ ys) ∧ xs.length + ys.length ≤ cap ∧ Below w.heap.size w w' := by
  have hb : Below w.heap.size w (w.alloc (.cells #[.slice A1 xs.length cap1, .slice A2 ys.length cap2] 22)) := (Below.refl _ _).alloc (Nat.le_refl _) _
  refine (concat_rus (h1.below hb) (h2.below hb) (pair_cells w _ _).1 (pair_cells w _ _).2).mono ?_
  rintro e w' ⟨v, rfl, k1, k2⟩
  obtain ⟨A, cap, rfl, hL, hc⟩ := k1.form (fun r hr => by
    rcases List.mem_append.1 hr with hr | hr
    · exact h1.lies.ok r hr
    · exact h2.lies.ok r hr) (by
    have := h1.size
    have := h2.size
    rw [List.length_append]
    omega)
  rw [List.length_append] at hc ⊢
  exact ⟨A, cap, rfl, hL, hc, hb.trans (k2.mono hb.size)⟩
end Go.Proofs.Ytandfbepenjbhaa
