/- slices.Concat of two slices of bytes. -/
import Derived.Test.YtalliljmkijeiaaSm4
namespace Go.Proofs.Ytalliljmkijeiaa
open Go.RowKit Go.Maps

/-- The second loop: what it has made so far. -/
structure CatB (w : World) (A1 A2 : Option Addr) (c1 c2 : Nat) (xs ys : List Int) (kb N : Nat) (us : List Int) (v : Value) (W : World) : Prop where
  own : OwnB w.heap.size W v us
  room : Roomy v N
  src1 : CameB W A1 c1 xs
  src2 : CameB W A2 c2 ys
  cell0 : W.cell? ⟨kb, 0, none⟩ = some (.slice A1 xs.length c1)
  cell1 : W.cell? ⟨kb, 1, none⟩ = some (.slice A2 ys.length c2)
  below : Below w.heap.size w W
theorem CatB.step {w : World} {A1 A2 A : Option Addr} {c1 c2 c : Nat} {xs ys zs : List Int} {kb N : Nat} {us : List Int} {v : Value} {W : World} (hw1 : CameB w A1 c1 xs) (hw2 : CameB w A2 c2 ys) (h0 : w.cell? ⟨kb, 0, none⟩ = some (.slice A1 xs.length c1)) (h1 : w.cell? ⟨kb, 1, none⟩ = some (.slice A2 ys.length c2))
    (h : CatB w A1 A2 c1 c2 xs ys kb N us v W) (hs : CameB W A c zs) (hn : us.length + zs.length ≤ N) :
    ∃ v' W', (∀ ty, (Builtin.append_ #[22, 22] ty #[v, .slice A zs.length c]).run Try.prog W = .ok v' W') ∧ Hid (CatB w A1 A2 c1 c2 xs ys kb N (us ++ zs) v' W') := by
  obtain ⟨v', W', hr, k1, k3, k2⟩ := cat_step h.own h.room hs h.below.size hn
  have hb := h.below.trans k2
  have hk := World.block_lt_of_cell? _ _ h0
  exact ⟨v', W', hr, Lib.hid ⟨k1, k3, hw1.below hb, hw2.below hb, (hb.cell (p := ⟨kb, 0, none⟩) hk).trans h0, (hb.cell (p := ⟨kb, 1, none⟩) hk).trans h1, hb⟩⟩

set_option maxRecDepth 100000 in
set_option maxHeartbeats 4000000 in
theorem concat_bytes {w : World} {A1 A2 : Option Addr} {cap1 cap2 : Nat} {xs ys : List Int} {kb : Nat} (h1 : CameB w A1 cap1 xs) (h2 : CameB w A2 cap2 ys) (hc0 : w.cell? ⟨kb, 0, none⟩ = some (.slice A1 xs.length cap1)) (hc1 : w.cell? ⟨kb, 1, none⟩ = some (.slice A2 ys.length cap2)) :
    Calls Try.prog 16 #[.slice (some ⟨kb, 0, none⟩) 2 2] w (ClonedB (xs ++ ys) w) := by
  obtain ⟨p, hp⟩ : ∃ p, xs.length = p := ⟨_, rfl⟩
  obtain ⟨q, hq⟩ : ∃ q, ys.length = q := ⟨_, rfl⟩
  have hs1 := h1.size
  have hs2 := h2.size
  have HST := Lib.hid (fun (us : List Int) (v : Value) (W : World) (h : CatB w A1 A2 cap1 cap2 xs ys kb (p + q) us v W) => And.intro (fun hl => h.step h1 h2 hc0 hc1 h.src1 hl) (fun hl => h.step h1 h2 hc0 hc1 h.src2 hl))
  have HG := Lib.hid (fun (v : Value) (W : World) (a : OwnB w.heap.size W v []) (hr : Roomy v (p + q)) (hb : Below w.heap.size w W) => (show CatB w A1 A2 cap1 cap2 xs ys kb (p + q) [] v W from by
    have hk := World.block_lt_of_cell? _ _ hc0
    exact ⟨a, hr, h1.below hb, h2.below hb, (hb.cell (p := ⟨kb, 0, none⟩) hk).trans hc0, (hb.cell (p := ⟨kb, 1, none⟩) hk).trans hc1, hb⟩))
  have HC0 := Lib.hid (fun (us : List Int) (v : Value) (W : World) (h : CatB w A1 A2 cap1 cap2 xs ys kb (p + q) us v W) => And.intro h.cell0 h.cell1)
  rw [hp] at hc0 HST HC0 hs1
  rw [hq] at hc1 HST HC0 hs2
  have HP := Lib.hid hp
  have HQ := Lib.hid hq
  clear h1 h2 hp hq
  have HGR := Lib.hid (grow_nil (w := w) (n := p + q) (by omega))
  go_enter Try.func16, Try.ntmps16
  go_wp2
  go_loopg [3, 11] 2 (fun k s c wr => wr = w ∧ ((k = 2 ∧ s = .int .i64 0 ∧ c = .int .i64 0) ∨ (k = 1 ∧ s = .int .i64 (p : Int) ∧ c = .int .i64 1) ∨ (k = 0 ∧ s = .int .i64 ((p + q : Nat) : Int) ∧ c = .int .i64 2)))
  case atStart => exact ⟨rfl, .inl ⟨rfl, rfl, rfl⟩⟩
  case round =>
    obtain ⟨hwr, ⟨rfl, rfl, rfl⟩ | ⟨rfl, rfl, rfl⟩ | ⟨rfl, rfl, rfl⟩⟩ := hrel
    · subst hwr
      go_wp2
      go_roundg 1
      case measure => omega
      case rel => exact ⟨rfl, .inr (.inl ⟨rfl, by go_num, rfl⟩)⟩
    · subst hwr
      go_wp2
      go_roundg 0
      case measure => omega
      case rel => exact ⟨rfl, .inr (.inr ⟨rfl, by go_num, rfl⟩)⟩
    · subst hwr
      clear hc0 hc1
      go_wp2_with fail
      refine HGR.out.mono ?_
      rintro e w1 ⟨v0, rfl, g1, g3, g2⟩
      have HS0 := Lib.hid (HG.out v0 w1 g1 g3 g2)
      clear g1 g2 g3
      go_wp2
      go_loopg [6, 27] 2 (fun k v c wz => (k = 2 ∧ c = .int .i64 0 ∧ Hid (CatB wr A1 A2 cap1 cap2 xs ys kb (p + q) [] v wz)) ∨ (k = 1 ∧ c = .int .i64 1 ∧ Hid (CatB wr A1 A2 cap1 cap2 xs ys kb (p + q) xs v wz)) ∨ (k = 0 ∧ c = .int .i64 2 ∧ Hid (CatB wr A1 A2 cap1 cap2 xs ys kb (p + q) (xs ++ ys) v wz)))
      case atStart => exact .inl ⟨rfl, rfl, HS0⟩
      case round =>
        clear HS0
        obtain ⟨rfl, rfl, HI⟩ | ⟨rfl, rfl, HI⟩ | ⟨rfl, rfl, HI⟩ := hrel
        · obtain ⟨v', W', hr, HN⟩ := (HST.out _ _ _ HI.out).1 (by simp)
          have d0 := (HC0.out _ _ _ HI.out).1
          clear HI
          go_wp2_with (at_builtin; refine wpList_append_eq rfl (.tmp 31) (.tmp 32) 22 22 rfl rfl rfl (hr _) ?_)
          go_roundg 1
          case measure => omega
          case rel => exact .inr (.inl ⟨rfl, rfl, HN⟩)
        · obtain ⟨v', W', hr, HN⟩ := (HST.out _ _ _ HI.out).2 (by rw [HP.out]; exact Nat.le_refl _)
          have d0 := (HC0.out _ _ _ HI.out).2
          clear HI
          go_wp2_with (at_builtin; refine wpList_append_eq rfl (.tmp 31) (.tmp 32) 22 22 rfl rfl rfl (hr _) ?_)
          go_roundg 0
          case measure => omega
          case rel => exact .inr (.inr ⟨rfl, rfl, HN⟩)
        · go_wp2
          go_ret
          exact ⟨_, rfl, HI.out.own, HI.out.below⟩
end Go.Proofs.Ytalliljmkijeiaa
