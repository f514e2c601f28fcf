/- The reference's SetInt64 and NewInt below 0; SetFrac, NewRat, BRat: contracts. -/
import Derived.Test.YtemoleopabddnaaRat1
import Derived.Test.YtemoleopabddnaaFrNum
namespace Go.Proofs.Ytemoleopabddnaa
open Go.RowKit

theorem setI_neg (g : Nat) (z : Int) (w : World) (hr : Room w g) (h0 : z < 0) (hz : -9223372036854775808 ≤ z) :
    Calls Try.prog 49 #[.pointer (some ⟨g, 0, none⟩), .int .i64 z] w fun e w' => e = .returned (.pointer (some ⟨g, 0, none⟩)) ∧ w.grownBy w' (some g) ∧ IntAt w' g z := by
  have hs : Calls Try.prog 58 #[.pointer (some ⟨g, 0, none⟩), .int .u64 (-z)] w fun e w' => e = .returned (.pointer (some ⟨g, 0, none⟩)) ∧ w.grownBy w' (some g) ∧ IntAt w' g (z.natAbs : Nat) := by
    rw [show -z = ((z.natAbs : Nat) : Int) by omega]
    exact setU_any g z.natAbs w hr (by omega)
  have ew : IntKind.u64.wrap (-IntKind.u64.wrap z) = -z := by rw [IntKind.wrap_u64, IntKind.wrap_u64]; omega
  go_enter Try.func49, Try.ntmps49
  go_wp2_with fail
  with_reducible refine hs.mono ?_
  rintro e w1 ⟨rfl, g1, i1⟩
  obtain ⟨A, n, c, f, hg, h1, h2, hn, hd, hs', ht, ev⟩ := i1.nat
  have c0 : w1.cell? ⟨g, 0, none⟩ = some (.bool false) := hg.cell (by decide)
  have y0 := hg.frozen 0
  go_wp2
  go_ret
  refine ⟨rfl, grown_here g1 0 _, true, A, n, c, f, two_set0 hg _, h1, ⟨h2, hn⟩, hd.only hg (grown_here (World.grownBy.refl w1 _) 0 _), hs', ht, ?_, by rw [← ev]; simp [sg]; omega⟩
  intro hn0
  subst hn0
  simp [val] at ev
  omega

theorem newInt_z (z : Int) (w : World) (h0 : -9223372036854775808 ≤ z) (h1 : z < 9223372036854775808) : Calls Try.prog 33 #[.int .i64 z] w (NewInt w z) := by
  rcases Int.lt_or_le z 0 with h | h
  · go_enter Try.func33, Try.ntmps33
    go_wp2_with fail
    refine (setI_neg w.heap.size z _ (room_new w) h h0).mono ?_
    rintro e w' ⟨rfl, hgr, hi⟩
    go_wp2
    go_ret
    exact ⟨_, Nat.le_refl _, rfl, below_of_grown ((Below.refl _ _).alloc (Nat.le_refl _) _) hgr (Nat.le_refl _), hi⟩
  · obtain ⟨X, rfl⟩ : ∃ X : Nat, z = X := ⟨z.toNat, by omega⟩
    exact newInt_any X w (by omega)

theorem four_set01 {w : World} {g : Nat} {h : Nat → Value} (r : w.rowIs g 47 4 h) (a b : Value) : ((w.setCell ⟨g, 0, none⟩ a).setCell ⟨g, 1, none⟩ b).rowIs g 47 4 (four a b (h 2) (h 3)) :=
  ((r.set 0 a).set 1 b).congr fun i hi => by
    have : i = 0 ∨ i = 1 ∨ i = 2 ∨ i = 3 := by omega
    rcases this with rfl | rfl | rfl | rfl <;> rfl
theorem four_set23 {w : World} {g : Nat} {p q r0 s0 : Value} (r : w.rowIs g 47 4 (four p q r0 s0)) (a b : Value) : ((w.setCell ⟨g, 2, none⟩ a).setCell ⟨g, 3, none⟩ b).rowIs g 47 4 (four p q a b) :=
  ((r.set 2 a).set 3 b).congr fun i hi => by
    have : i = 0 ∨ i = 1 ∨ i = 2 ∨ i = 3 := by omega
    rcases this with rfl | rfl | rfl | rfl <;> rfl

set_option maxHeartbeats 1000000 in
/-- SetFrac, by a denominator above 0, below 2^64. -/
theorem setFrac_any (gz ga gb : Nat) (a : Int) (b : Nat) (w : World) (hz : RatRoom w gz) (ha : IntAt w ga a) (hb : IntAt w gb b) (h0 : 0 < b) (la : a.natAbs < 18446744073709551616) (lb : b < 18446744073709551616) :
    Calls Try.prog 32 #[.pointer (some ⟨gz, 0, none⟩), .pointer (some ⟨ga, 0, none⟩), .pointer (some ⟨gb, 0, none⟩)] w fun e w' =>
      e = .returned (.pointer (some ⟨gz, 0, none⟩)) ∧ w.grownBy w' (some gz) ∧ RatAt w' gz (lN a b) (lD a b) := by
  have lz := hz.lt
  have lxa := ha.room.lt
  have lxb := hb.room.lt
  obtain ⟨G, hG⟩ : ∃ G : Nat, Nat.gcd a.natAbs b = G := ⟨_, rfl⟩
  have eG : gF a b = (G : Int) := by unfold gF; rw [← hG]; rfl
  have pG : 0 < G := by rw [← hG]; exact Nat.gcd_pos_of_pos_right _ h0
  have q1 : a.tdiv (G : Int) = lN a b := by rw [← eG]; exact tdiv_lN a b
  have q2 : ((b : Int)).tdiv (G : Int) = lD a b := by rw [← eG]; exact tdiv_lD a b
  have b0 := (Below.refl w.heap.size w).alloc (Nat.le_refl _) (.cells #[.bool false, .slice none 0 0] 45)
  have hgcd := gcd_small w.heap.size ga gb a b _ (room_new w) (ha.below b0) (hb.below b0) la (by omega)
  rw [show ((b : Nat) : Int).natAbs = b by omega, hG] at hgcd
  have pd := lD_pos (n := a) (d := (b : Int)) (by omega)
  have HG := Lib.hid hG
  clear hG
  go_enter Try.func32, Try.ntmps32
  go_wp2_with fail
  refine hgcd.mono ?_
  rintro e w1 ⟨rfl, g1, i1⟩
  have b1 : Below w.heap.size w w1 := below_of_grown b0 g1 (Nat.le_refl _)
  have s1 := b1.size
  have l1 := i1.room.lt
  have c1 := (Below.refl w1.heap.size w1).alloc (Nat.le_refl _) (.cells #[.bool false, .slice none 0 0] 45)
  go_wp2_with fail
  refine (quo_nearInt w1.heap.size ga w.heap.size a G _ (room_new w1) ((ha.below b1).below c1) (i1.below c1) pG la).mono ?_
  rintro e w2 ⟨rfl, g2, i2⟩
  rw [q1] at i2
  have b2 : Below w1.heap.size w1 w2 := below_of_grown c1 g2 (Nat.le_refl _)
  have B2 : Below w.heap.size w w2 := below_of b1 b2 b1.size
  have s2 := b2.size
  have l2 := i2.room.lt
  have c2 := (Below.refl w2.heap.size w2).alloc (Nat.le_refl _) (.cells #[.bool false, .slice none 0 0] 45)
  go_wp2_with fail
  refine (quo_nearInt w2.heap.size gb w.heap.size b G _ (room_new w2) ((hb.below B2).below c2) ((i1.below b2).below c2) pG (by omega)).mono ?_
  rintro e w3 ⟨rfl, g3, i3⟩
  rw [q2] at i3
  have b3 : Below w2.heap.size w2 w3 := below_of_grown c2 g3 (Nat.le_refl _)
  have B3 : Below w.heap.size w w3 := below_of B2 b3 B2.size
  have s3 := b3.size
  have l3 := i3.room.lt
  have j2 := i2.below b3
  have p3 := i3.plus (by omega)
  obtain ⟨t1, A1, n1, k1, r1, m1⟩ := j2.num
  obtain ⟨t2, A2, n2, k2, r2, m2⟩ := i3.num
  obtain ⟨h3, z3⟩ := hz.below B3
  have o0 := r1.cell (i := 0) (by decide)
  have o1 := r1.cell (i := 1) (by decide)
  go_wp2_with fail
  refine (set_num gz 0 w1.heap.size 0 t1 A1 n1 k1 _ w3 (by omega) o0 o1 r1.lt z3.lt (z3.cell (i := 0) (by decide)) (z3.cell (i := 1) (by decide)) (z3.frozen 0) (z3.frozen 1) m1).mono ?_
  rintro e w4 ⟨rfl, w4', A3, k3, hw4, b4, m3⟩
  have z4 := z3.of_block (b4.block gz z3.lt)
  have z5 := four_set01 z4 (.bool t1) (.slice A3 n1 k3)
  have m4 := (m3.set z4 (by decide) 0 (.bool t1)).set (z4.set 0 _) (by decide) 1 (.slice A3 n1 k3)
  have r4 := (r2.of_block (b4.block _ r2.lt))
  have r5 := (r4.setOther (a := ⟨gz, 0, none⟩) (show w2.heap.size ≠ gz by omega) (.bool t1)).setOther (a := ⟨gz, 1, none⟩) (show w2.heap.size ≠ gz by omega) (.slice A3 n1 k3)
  have m5 := ((m2.below b4).set z4 (by decide) 0 (.bool t1)).set (z4.set 0 _) (by decide) 1 (.slice A3 n1 k3)
  have G4 : w3.grownBy w4 (some gz) := hw4 ▸ grown_trans (grown_of_below b4) (grown_here (grown_here (World.grownBy.refl _ _) 0 _) 1 _)
  rw [← hw4] at z5 m4 r5 m5
  clear hw4
  go_wp2_with fail
  refine (set_num gz 2 w2.heap.size 0 t2 A2 n2 k2 _ w4 (by omega) (r5.cell (i := 0) (by decide)) (r5.cell (i := 1) (by decide)) r5.lt z5.lt (z5.cell (i := 2) (by decide)) (z5.cell (i := 3) (by decide)) (z5.frozen 2) (z5.frozen 3) m5).mono ?_
  rintro e w6 ⟨rfl, w6', A6, k6, hw6, b6, m6⟩
  have z6 := z5.of_block (b6.block gz z5.lt)
  have z7 := four_set23 z6 (.bool t2) (.slice A6 n2 k6)
  have m7 := (m6.set z6 (by decide) 2 (.bool t2)).set (z6.set 2 _) (by decide) 3 (.slice A6 n2 k6)
  have m8 := ((m4.below b6).set z6 (by decide) 2 (.bool t2)).set (z6.set 2 _) (by decide) 3 (.slice A6 n2 k6)
  have G6 : w4.grownBy w6 (some gz) := hw6 ▸ grown_trans (grown_of_below b6) (grown_here (grown_here (World.grownBy.refl _ _) 2 _) 3 _)
  rw [← hw6] at z7 m7 m8
  clear hw6
  go_wp2_with fail
  go_ret
  exact ⟨rfl, grown_trans (grown_trans (grown_of_below B3) G4) G6, t1, A3, n1, k3, t2, A6, n2, k6, z7, m8, .inl m7⟩
end Go.Proofs.Ytemoleopabddnaa
