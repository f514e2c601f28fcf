/- Pairs (api.Sent): append of whatever length; slices.Grow of nil and slices.Concat of two. -/
import Derived.Test.YtgphbplmkegdeaaSn1
import Derived.Test.YtgphbplmkegdeaaIn3b
import Derived.Lib.AppendZeros
namespace Go.Proofs.Ytgphbplmkegdeaa
open Go.RowKit Go.Maps

theorem under_i64 : Try.prog.underlying 3 = some (.int .i64) := by kernel_rfl
theorem sns_back {gs : List (Nat × Int)} {j : Nat} {u : Value} (h : (sns gs)[j]? = some u) : ∃ k p, gs[k]? = some p ∧ ((j = k * 2 ∧ u = .int .i64 (p.1 : Int)) ∨ (j = k * 2 + 1 ∧ u = .int .i64 p.2)) := by
  have hl := lt_of_some h
  rw [sns_length] at hl
  have hk : j / 2 < gs.length := by omega
  obtain ⟨h1, h2⟩ := sns_at (List.getElem?_eq_getElem hk)
  refine ⟨j / 2, gs[j / 2], List.getElem?_eq_getElem hk, ?_⟩
  rcases (by omega : j = j / 2 * 2 ∨ j = j / 2 * 2 + 1) with e | e
  · rw [← e, h] at h1
    injection h1 with h1
    exact .inl ⟨e, h1⟩
  · rw [← e, h] at h2
    injection h2 with h2
    exact .inr ⟨e, h2⟩
theorem sents_app {B : Nat} {w : World} {v : Value} {us xs : List (Nat × Int)} {A : Option Addr} (h : OwnS B w v us) (hs : SentIn w A xs) (c : Nat) (hB : B ≤ w.heap.size) (hn : us.length + xs.length ≤ 100000) :
    ∃ v' W, (∀ ty, (Builtin.append_ #[24, 24] ty #[v, .slice A xs.length c]).run Try.prog w = .ok v' W) ∧ OwnS B W v' (us ++ xs) ∧ Below B w W := by
  obtain ⟨i0, hi, hz0, hz1, hz2⟩ := info_three info_sent
  by_cases h0 : 0 < xs.length
  · obtain ⟨b, off, rfl, hl, hc⟩ := hs.at_ h0
    have key := fun ty => run_append_own_at (P := Try.prog) w B 24 ty 35 i0 _ 2 16 under_sents hi hz0 hz1 hz2 rfl (by decide) v us.length (sns us) h
      ⟨b, off, none⟩ xs.length c (sns xs) (sns_length xs) (fun j x hx => by
        have hadd : (⟨b, off, none⟩ : Addr).add j = ⟨b, off + j, none⟩ := by unfold Addr.add; split <;> simp_all
        rw [hadd]
        obtain ⟨k, p, hp, ⟨rfl, rfl⟩ | ⟨rfl, rfl⟩⟩ := sns_back hx
        · exact (hc k p hp).1
        · exact (hc k p hp).2) (sns_one _) (by simp only [maxLen]; omega) (by omega) hB
    obtain ⟨v', W, hr, h2, h3, _, _⟩ := key 0
    refine ⟨v', W, fun ty => hr, ?_, ⟨h3.os, h3.tape, h3.output, h3.size, fun k hk => h3.block k (by omega) (fun e => by
      have := (World.ownsRow.lt h k e.symm).1
      omega)⟩⟩
    unfold OwnS
    rw [sns_append, List.length_append]
    exact h2
  · obtain rfl : xs = [] := List.eq_nil_of_length_eq_zero (by omega)
    rw [List.append_nil]
    have key : ∃ A' cap, v = .slice A' us.length cap ∧ us.length ≤ cap := by
      rcases h.2 with ⟨e, h0⟩ | ⟨g, cap, cur, e, _, _, hn, _⟩
      · exact ⟨none, 0, by rw [e, h0], by omega⟩
      · exact ⟨_, cap, e, hn⟩
    obtain ⟨A', cap, e, hle⟩ := key
    refine ⟨v, w, fun ty => ?_, h, Below.refl _ _⟩
    rw [e]
    cases A with
    | none => exact run_append_nothing w _ _ ty _ i0 under_sents hi A' us.length cap hle _ (Src.ofNil w under_sents c)
    | some a => exact run_append_nothing w _ _ ty _ i0 under_sents hi A' us.length cap hle _ (Src.ofSlice w under_sents a 0 c [] (by simp) (by simp) (by simp))
theorem zero_cells2 (z : Array Value) (n : Nat) (hz : z.size = 2) : (Builtin.zeroCells z n).size = n * 2 := by
  simp [Builtin.zeroCells, hz]
theorem grow_sents {w : World} {n : Nat} (h0 : 0 < n) (hn : n ≤ 100000) :
    ∃ cap W, (∀ ty, (Builtin.append_ #[24, 3] ty #[.slice none 0 0, .int .i64 (n : Int)]).run Try.prog w = .ok (.slice (some ⟨w.heap.size, 0, none⟩) n cap) W) ∧ OwnS w.heap.size W (.slice (some ⟨w.heap.size, 0, none⟩) 0 cap) [] ∧ n ≤ cap ∧ Below w.heap.size w W := by
  obtain ⟨i0, hi, hz0, hz1, hz2⟩ := info_three info_sent
  have hr := fun ty => Lib.run_append_nil_zeros (P := Try.prog) w 24 3 ty 35 i0 _ .i64 .i64 under_sents under_i64 hi hz0 n h0 (by omega) (by omega) (by rw [hz2]; omega)
  have hG := grownCap_ge w n 0 35
  have hG2 := grownCap_le_maxLen w n 0 35 (by simp only [maxLen]; omega)
  refine ⟨_, _, hr, ?_, hG, ((Below.refl _ w).drew).alloc (Nat.le_refl _) _⟩
  refine ⟨rfl, .inr ⟨w.heap.size, _, _, rfl, Nat.le_refl _, heap_alloc_new w.drew _, Nat.zero_le _, hG2, ?_, ?_⟩⟩
  · rw [Array.size_append, zero_cells2 _ _ rfl, zero_cells2 _ _ rfl]
    omega
  · simp [sns]

set_option maxHeartbeats 1000000 in
theorem grow_nilS {w : World} {n : Nat} (hn : n ≤ 100000) :
    Calls Try.prog 32 #[.slice none 0 0, .int .i64 (n : Int)] w fun e w' => ∃ v, e = .returned v ∧ OwnS w.heap.size w' v [] ∧ Below w.heap.size w w' := by
  by_cases h0 : n = 0
  · subst h0
    go_enter Try.func32, Try.ntmps32
    go_wp2
    go_ret
    exact ⟨_, rfl, OwnS.nil _ _, Below.refl _ _⟩
  · obtain ⟨cap, W, hr, h1, hc, h2⟩ := grow_sents (w := w) (n := n) (by omega) hn
    have HX := Lib.hid (And.intro h1 h2)
    have i1 : ¬ ((n : Int) < 0) := by omega
    have i2 : (0 : Int) < (n : Int) := by omega
    clear h1 h2 hc
    go_enter Try.func32, Try.ntmps32
    go_wp2_with (at_builtin; refine wpList_append_eq rfl (.tmp 20) (.tmp 21) 24 3 rfl rfl rfl (hr _) ?_)
    go_ret
    exact ⟨_, rfl, HX.out⟩

/-- The second loop: what it has made so far. -/
structure CatS (w : World) (A1 A2 : Option Addr) (c1 c2 : Nat) (xs ys : List (Nat × Int)) (kb : Nat) (us : List (Nat × Int)) (v : Value) (W : World) : Prop where
  own : OwnS w.heap.size W v us
  src1 : SentIn W A1 xs
  src2 : SentIn W A2 ys
  cell0 : W.cell? ⟨kb, 0, none⟩ = some (.slice A1 xs.length c1)
  cell1 : W.cell? ⟨kb, 1, none⟩ = some (.slice A2 ys.length c2)
  below : Below w.heap.size w W
theorem CatS.step {w : World} {A1 A2 A : Option Addr} {c1 c2 c : Nat} {xs ys zs : List (Nat × Int)} {kb : Nat} {us : List (Nat × Int)} {v : Value} {W : World} (hw1 : SentIn w A1 xs) (hw2 : SentIn w A2 ys) (h0 : w.cell? ⟨kb, 0, none⟩ = some (.slice A1 xs.length c1)) (h1 : w.cell? ⟨kb, 1, none⟩ = some (.slice A2 ys.length c2))
    (h : CatS w A1 A2 c1 c2 xs ys kb us v W) (hs : SentIn W A zs) (hn : us.length + zs.length ≤ 100000) :
    ∃ v' W', (∀ ty, (Builtin.append_ #[24, 24] ty #[v, .slice A zs.length c]).run Try.prog W = .ok v' W') ∧ Hid (CatS w A1 A2 c1 c2 xs ys kb (us ++ zs) v' W') := by
  obtain ⟨v', W', hr, k1, k2⟩ := sents_app h.own hs c h.below.size hn
  have hb := h.below.trans k2
  have hk := World.block_lt_of_cell? _ _ h0
  exact ⟨v', W', hr, Lib.hid ⟨k1, hw1.below hb, hw2.below hb, (hb.cell (p := ⟨kb, 0, none⟩) hk).trans h0, (hb.cell (p := ⟨kb, 1, none⟩) hk).trans h1, hb⟩⟩

set_option maxRecDepth 100000 in
set_option maxHeartbeats 4000000 in
theorem concat_sents {w : World} {A1 A2 : Option Addr} {cap1 cap2 : Nat} {xs ys : List (Nat × Int)} {kb : Nat} (h1 : SentIn w A1 xs) (h2 : SentIn w A2 ys) (hn : xs.length + ys.length ≤ 100000) (hc0 : w.cell? ⟨kb, 0, none⟩ = some (.slice A1 xs.length cap1)) (hc1 : w.cell? ⟨kb, 1, none⟩ = some (.slice A2 ys.length cap2)) :
    Calls Try.prog 22 #[.slice (some ⟨kb, 0, none⟩) 2 2] w fun e w' => ∃ v, e = .returned v ∧ OwnS w.heap.size w' v (xs ++ ys) ∧ Below w.heap.size w w' := by
  obtain ⟨p, hp⟩ : ∃ p, xs.length = p := ⟨_, rfl⟩
  obtain ⟨q, hq⟩ : ∃ q, ys.length = q := ⟨_, rfl⟩
  have HST := Lib.hid (fun (us : List (Nat × Int)) (v : Value) (W : World) (h : CatS w A1 A2 cap1 cap2 xs ys kb us v W) => And.intro (fun hl => h.step h1 h2 hc0 hc1 (c := cap1) h.src1 hl) (fun hl => h.step h1 h2 hc0 hc1 (c := cap2) h.src2 hl))
  have HG := Lib.hid (fun (v : Value) (W : World) (a : OwnS w.heap.size W v []) (hb : Below w.heap.size w W) => (show CatS w A1 A2 cap1 cap2 xs ys kb [] v W from by
    have hk := World.block_lt_of_cell? _ _ hc0
    exact ⟨a, h1.below hb, h2.below hb, (hb.cell (p := ⟨kb, 0, none⟩) hk).trans hc0, (hb.cell (p := ⟨kb, 1, none⟩) hk).trans hc1, hb⟩))
  have HC0 := Lib.hid (fun (us : List (Nat × Int)) (v : Value) (W : World) (h : CatS w A1 A2 cap1 cap2 xs ys kb us v W) => And.intro h.cell0 h.cell1)
  rw [hp] at hc0 HST HC0 hn
  rw [hq] at hc1 HST HC0 hn
  have HP := Lib.hid hp
  have HQ := Lib.hid hq
  clear h1 h2 hp hq
  have HGR := Lib.hid (grow_nilS (w := w) (n := p + q) (by omega))
  go_enter Try.func22, Try.ntmps22
  go_wp2
  go_loopg [3, 11] 2 (fun k s c wr => wr = w ∧ ((k = 2 ∧ s = .int .i64 0 ∧ c = .int .i64 0) ∨ (k = 1 ∧ s = .int .i64 (p : Int) ∧ c = .int .i64 1) ∨ (k = 0 ∧ s = .int .i64 ((p + q : Nat) : Int) ∧ c = .int .i64 2)))
  case atStart => exact ⟨rfl, .inl ⟨rfl, rfl, rfl⟩⟩
  case round =>
    obtain ⟨hwr, ⟨rfl, rfl, rfl⟩ | ⟨rfl, rfl, rfl⟩ | ⟨rfl, rfl, rfl⟩⟩ := hrel
    · subst hwr
      go_wp2
      go_roundg 1
      case measure => omega
      case rel => exact ⟨rfl, .inr (.inl ⟨rfl, by go_num, rfl⟩)⟩
    · subst hwr
      go_wp2
      go_roundg 0
      case measure => omega
      case rel => exact ⟨rfl, .inr (.inr ⟨rfl, by go_num, rfl⟩)⟩
    · subst hwr
      clear hc0 hc1
      go_wp2_with fail
      refine HGR.out.mono ?_
      rintro e w1 ⟨v0, rfl, g1, g2⟩
      have HS0 := Lib.hid (HG.out v0 w1 g1 g2)
      clear g1 g2
      go_wp2
      go_loopg [6, 27] 2 (fun k v c wz => (k = 2 ∧ c = .int .i64 0 ∧ Hid (CatS wr A1 A2 cap1 cap2 xs ys kb [] v wz)) ∨ (k = 1 ∧ c = .int .i64 1 ∧ Hid (CatS wr A1 A2 cap1 cap2 xs ys kb xs v wz)) ∨ (k = 0 ∧ c = .int .i64 2 ∧ Hid (CatS wr A1 A2 cap1 cap2 xs ys kb (xs ++ ys) v wz)))
      case atStart => exact .inl ⟨rfl, rfl, HS0⟩
      case round =>
        clear HS0
        obtain ⟨rfl, rfl, HI⟩ | ⟨rfl, rfl, HI⟩ | ⟨rfl, rfl, HI⟩ := hrel
        · obtain ⟨v', W', hr, HN⟩ := (HST.out _ _ _ HI.out).1 (by simp only [List.length_nil]; omega)
          have d0 := (HC0.out _ _ _ HI.out).1
          clear HI
          go_wp2_with (at_builtin; refine wpList_append_eq rfl (.tmp 31) (.tmp 32) 24 24 rfl rfl rfl (hr _) ?_)
          go_roundg 1
          case measure => omega
          case rel => exact .inr (.inl ⟨rfl, rfl, HN⟩)
        · obtain ⟨v', W', hr, HN⟩ := (HST.out _ _ _ HI.out).2 (by rw [HP.out]; omega)
          have d0 := (HC0.out _ _ _ HI.out).2
          clear HI
          go_wp2_with (at_builtin; refine wpList_append_eq rfl (.tmp 31) (.tmp 32) 24 24 rfl rfl rfl (hr _) ?_)
          go_roundg 0
          case measure => omega
          case rel => exact .inr (.inr ⟨rfl, rfl, HN⟩)
        · go_wp2
          go_ret
          exact ⟨_, rfl, HI.out.own, HI.out.below⟩
theorem concat_pairS {w : World} {A1 A2 : Option Addr} {cap1 cap2 : Nat} {xs ys : List (Nat × Int)} (h1 : SentIn w A1 xs) (h2 : SentIn w A2 ys) (hn : xs.length + ys.length ≤ 100000) :
    Calls Try.prog 22 #[.slice (some ⟨w.heap.size, 0, none⟩) 2 2] (w.alloc (.cells #[.slice A1 xs.length cap1, .slice A2 ys.length cap2] 24)) fun e w' =>
      ∃ A cap, e = .returned (.slice A (xs ++ ys).length cap) ∧ SentIn w' A (xs ++ ys) ∧ Below w.heap.size w w' := by
  have hb : Below w.heap.size w (w.alloc (.cells #[.slice A1 xs.length cap1, .slice A2 ys.length cap2] 24)) := (Below.refl _ _).alloc (Nat.le_refl _) _
  refine (concat_sents (h1.below hb) (h2.below hb) hn (kb := w.heap.size) (cell_of_row _ _ 0 _ _ _ (heap_alloc_new w _)) (cell_of_row _ _ 1 _ _ _ (heap_alloc_new w _))).mono ?_
  rintro e w' ⟨v, rfl, k1, k2⟩
  obtain ⟨A, cap, rfl, hf⟩ := k1.form
  exact ⟨A, cap, rfl, hf, hb.trans (k2.mono hb.size)⟩
end Go.Proofs.Ytgphbplmkegdeaa
