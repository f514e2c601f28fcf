/- The reference's AWide: a contract. -/
import Derived.Test.YtfopcipapphogaaBig16
namespace Go.Proofs.Ytfopcipapphogaa
open Go.RowKit

def m128 (z : Int) : Nat := (z % 340282366920938463463374607431768211456).toNat
theorem m128_eq (z : Int) : z % 340282366920938463463374607431768211456 = (m128 z : Int) := by unfold m128; omega
theorem m128_lt (z : Int) : m128 z < 340282366920938463463374607431768211456 := by unfold m128; omega

theorem At.below2 {W w' : World} {b : Nat} {h l : Int} (p : At W b h l) (hb : w'.heap[b]? = W.heap[b]?) (hs : W.heap.size ≤ w'.heap.size) : At w' b h l :=
  ⟨(World.cell?_of_block hb).trans p.1, (World.cell?_of_block hb).trans p.2.1, Nat.lt_of_lt_of_le p.2.2.1 hs, (World.frozen?_of_block hb).trans p.2.2.2.1, (World.frozen?_of_block hb).trans p.2.2.2.2⟩

set_option maxRecDepth 100000 in
set_option maxHeartbeats 1000000 in
theorem awide_any (gx : Nat) (z : Int) (w : World) (hx : IntAt w gx z) (hc : z.natAbs < 340282366920938463463374607431768211456 ∨ 340282366920938463463374607431768211456 ≤ z) :
    Calls Try.prog 14 #[.pointer (some ⟨gx, 0, none⟩)] w fun e w' =>
      e = .returned (.tuple #[.agg #[.int .u64 (m128 z / 18446744073709551616 : Nat), .int .u64 (m128 z % 18446744073709551616 : Nat)], .bool (cmpI (m128 z) z != 0)]) ∧ Below w.heap.size w w' := by
  have lx := hx.room.lt
  have ml := m128_lt z
  obtain ⟨W0, hW0⟩ : ∃ W, w.alloc (.cells #[.int .u64 0, .int .u64 0] 24) = W := ⟨_, rfl⟩
  have P0 : At W0 w.heap.size 0 0 := hW0 ▸ At.new w 0 0
  have B0 : Below w.heap.size w W0 := hW0 ▸ (Below.refl _ _).alloc (Nat.le_refl _) _
  have hsz : w.heap.size + 1 = W0.heap.size := by rw [← hW0]; simp
  have HW := Lib.hid hW0
  clear hW0
  have x0 := hx.below B0
  go_enter Try.func14, Try.ntmps14
  go_wp2_with fail
  rw [HW.out]
  obtain ⟨W1, hW1⟩ : ∃ W, W0.alloc (.cells #[.bool false, .slice none 0 0] 32) = W := ⟨_, rfl⟩
  have R1 : Room W1 W0.heap.size := hW1 ▸ room_new W0
  have A1 : Below W0.heap.size W0 W1 := hW1 ▸ (Below.refl _ _).alloc (Nat.le_refl _) _
  rw [hW1]
  with_reducible refine (newInt1 W1).mono ?_
  rintro e w2 ⟨g2, hg2, rfl, b2, i2⟩
  have P2 := (P0.below A1).below b2
  have x2 := (x0.below A1).below b2
  have R2 := R1.below b2
  have s0 := B0.size
  have s1 := A1.size
  have s2 := b2.size
  have B2 : Below w.heap.size w w2 := below_of (below_of B0 A1 B0.size) b2 (by omega)
  go_wp2_with fail
  with_reducible refine (lsh128 W0.heap.size g2 1 w2 R2 i2 (Fits.of (k := 5) (by decide) (by decide))).mono ?_
  rintro e w3 ⟨rfl, g3, i3⟩
  have B3 : Below w.heap.size w w3 := B2.grown g3 B2.size (fun k hk => by injection hk with hk; omega)
  have P3 : At w3 w.heap.size 0 0 := P2.below2 (g3.block _ P2.2.2.1 (by simp; omega)) g3.size
  have x3 := x2.only R2 g3 (by omega)
  have i3' : IntAt w3 W0.heap.size (340282366920938463463374607431768211456 : Nat) := i3
  have l3 := i3.room.lt
  have A3 := (Below.refl w3.heap.size w3).alloc (Nat.le_refl _) (.cells #[.bool false, .slice none 0 0] 32)
  go_wp2_with fail
  with_reducible refine (mod_int w3.heap.size gx W0.heap.size z 340282366920938463463374607431768211456 _ (room_new w3) (x3.below A3) (i3'.below A3) (by omega) (by decide) (Fits.of (k := 5) (by decide) (by decide)) (by omega)).mono ?_
  rintro e w4 ⟨rfl, g4, i4⟩
  have b4 : Below w3.heap.size w3 w4 := below_of_grown A3 g4 (Nat.le_refl _)
  have B4 := below_of B3 b4 B3.size
  have P4 := P3.below b4
  have x4 := x3.below b4
  rw [show z % ((340282366920938463463374607431768211456 : Nat) : Int) = (m128 z : Int) from m128_eq z] at i4
  have l4 := i4.room.lt
  obtain ⟨W5, hW5⟩ : ∃ W, w4.alloc (.cells #[.bool false, .slice none 0 0] 32) = W := ⟨_, rfl⟩
  have R5 : Room W5 w4.heap.size := hW5 ▸ room_new w4
  have A5 : Below w4.heap.size w4 W5 := hW5 ▸ (Below.refl _ _).alloc (Nat.le_refl _) _
  have hs5 : w4.heap.size + 1 = W5.heap.size := by rw [← hW5]; simp
  have H5 := Lib.hid hW5
  clear hW5
  go_wp2_with fail
  rw [H5.out]
  with_reducible refine (setMask W5.heap.size _ (room_new W5)).mono ?_
  rintro e w6 ⟨rfl, g6, i6⟩
  have b6 : Below W5.heap.size W5 w6 := below_of_grown ((Below.refl _ _).alloc (Nat.le_refl _) _) g6 (Nat.le_refl _)
  have b46 : Below w4.heap.size w4 w6 := below_of A5 b6 A5.size
  have B6 := below_of B4 b46 B4.size
  have P6 := P4.below b46
  have x6 := x4.below b46
  have m6 := i4.below b46
  have R6 := R5.below b6
  go_wp2_with fail
  with_reducible refine (and_mask w4.heap.size w3.heap.size W5.heap.size (m128 z) w6 R6 m6 i6).mono ?_
  rintro e w7 ⟨rfl, g7, i7⟩
  have B7 : Below w.heap.size w w7 := B6.grown g7 B6.size (fun k hk => by injection hk with hk; have := B4.size; omega)
  have P7 : At w7 w.heap.size 0 0 := P6.below2 (g7.block _ P6.2.2.1 (by simp; have := B4.size; have := B3.size; omega)) g7.size
  have x7 := x6.only R6 g7 (by have := B4.size; omega)
  have m7 := m6.only R6 g7 (by omega)
  have A7 := (Below.refl w7.heap.size w7).alloc (Nat.le_refl _) (.cells #[.bool false, .slice none 0 0] 32)
  have l7 := i7.room.lt
  go_wp2_with fail
  with_reducible refine (rsh64 w7.heap.size w3.heap.size (m128 z) _ (room_new w7) (m7.below A7)).mono ?_
  rintro e w8 ⟨rfl, g8, i8⟩
  have b8 : Below w7.heap.size w7 w8 := below_of_grown A7 g8 (Nat.le_refl _)
  have B8 := below_of B7 b8 B7.size
  have P8 := P7.below b8
  have x8 := x7.below b8
  have m8 := m7.below b8
  have i78 := i7.below b8
  go_wp2_with fail
  with_reducible refine (uint64_int w7.heap.size _ w8 i8).mono ?_
  rintro e w9 ⟨rfl, rfl⟩
  rw [show m128 z / 18446744073709551616 % 18446744073709551616 = m128 z / 18446744073709551616 from by omega]
  go_wp2_with fail
  with_reducible refine (uint64_int w4.heap.size _ w8 i78).mono ?_
  rintro e w9 ⟨rfl, rfl⟩
  rw [show m128 z % 18446744073709551616 % 18446744073709551616 = m128 z % 18446744073709551616 from by omega]
  go_wp2_with fail
  with_reducible refine (cmp_int w3.heap.size gx _ _ w8 m8 x8).mono ?_
  rintro e w9 ⟨rfl, k, rfl⟩
  obtain ⟨p8, q8, r8, f8, k8⟩ := id P8
  go_wp2_with fail
  exact bodyPost_ret (v := .tuple #[.agg #[.int .u64 _, .int .u64 _], .bool _]) (by simp [results, Try.results14, go_sem, p8, q8]) rfl ⟨rfl, ((below_drewN B8 k).setCell (by simp) _).setCell (by simp) _⟩
end Go.Proofs.Ytfopcipapphogaa
