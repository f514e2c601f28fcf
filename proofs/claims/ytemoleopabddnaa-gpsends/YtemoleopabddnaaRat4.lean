/- Add, Mul, Neg, Sub and Cmp of the reference's Rat: contracts. -/
import Derived.Test.YtemoleopabddnaaRat3a
namespace Go.Proofs.Ytemoleopabddnaa
open Go.RowKit

theorem fits63 {x : Int} (h : x.natAbs < 9223372036854775808) : Fits x.natAbs := Fits.of (k := 2) (by omega) (by decide)
theorem pos_prod {a b : Int} (ha : 0 < a) (hb : 0 < b) : 0 < a * b := Int.mul_pos ha hb

set_option maxRecDepth 100000 in
set_option maxHeartbeats 1000000 in
theorem rmul_any (gz gx gy : Nat) (x1 y1 x2 y2 : Int) (w : World) (Rz : RatRoom w gz) (Qx : RatAt w gx x1 y1) (Qy : RatAt w gy x2 y2) (p1 : 0 < y1) (p2 : 0 < y2) (h1 : (x1 * x2).natAbs < 9223372036854775808) (h2 : (y1 * y2).natAbs < 9223372036854775808) :
    Calls Try.prog 30 #[.pointer (some ⟨gz, 0, none⟩), .pointer (some ⟨gx, 0, none⟩), .pointer (some ⟨gy, 0, none⟩)] w fun e w' =>
      e = .returned (.pointer (some ⟨gz, 0, none⟩)) ∧ w.grownBy w' (some gz) ∧ RatAt w' gz (lN (x1 * x2) (y1 * y2)) (lD (x1 * x2) (y1 * y2)) := by
  have B := Below.refl w.heap.size w
  have hs0 := B.size
  have lz := Rz.lt
  have lx := Qx.room.lt
  have ly := Qy.room.lt
  go_enter Try.func30, Try.ntmps30
  have S1Qx := Qx
  have S1Qy := Qy
  have S1Rz := Rz
  have S1B := B
  obtain ⟨V1, hV1⟩ : ∃ V, w.alloc (.cells #[.bool false, .slice none 0 0] 45) = V := ⟨_, rfl⟩
  have AV1 : Below w.heap.size w V1 := hV1 ▸ (Below.refl _ _).alloc (Nat.le_refl _) _
  have zV1 : w.heap.size + 1 = V1.heap.size := by rw [← hV1]; simp
  replace Qx := Qx.below AV1
  replace Qy := Qy.below AV1
  replace Rz := Rz.below AV1
  have Rar : Room V1 w.heap.size := hV1 ▸ room_new w
  replace B := below_of B AV1 B.size
  have sV1 := B.size
  go_wp2_with fail
  with_reducible refine (num_any gx x1 y1 _ Qx).mono ?_
  rintro e w1 ⟨gp, hgp, rfl, hb, Ip⟩
  have b1 : Below V1.heap.size V1 w1 := hb
  replace Qx := Qx.below b1
  replace Qy := Qy.below b1
  replace Rz := Rz.below b1
  replace Rar := Rar.below b1
  replace B := below_of B b1 B.size
  have sw1 := b1.size
  have lp := Ip.room.lt
  go_wp2_with fail
  with_reducible refine (num_any gy x2 y2 _ Qy).mono ?_
  rintro e w2 ⟨gq, hgq, rfl, hb, Iq⟩
  have b2 : Below w1.heap.size w1 w2 := hb
  replace Ip := Ip.below b2
  replace Qx := Qx.below b2
  replace Qy := Qy.below b2
  replace Rz := Rz.below b2
  replace Rar := Rar.below b2
  replace B := below_of B b2 B.size
  have sw2 := b2.size
  have lq := Iq.room.lt
  go_wp2_with fail
  have GB : Below w.heap.size w w2 := (below_of (below_of (below_of (Below.refl w.heap.size w) AV1 (by omega)) b1 (by omega)) b2 (by omega))
  with_reducible refine (mul_int w.heap.size gp gq (x1) (x2) _ Rar Ip Iq (fits63 h1)).mono ?_
  rintro e w3x ⟨rfl, gr, Ia⟩
  have K1 : Below w.heap.size w w3x := GB.grown gr GB.size (fun k hk => by injection hk with hk; omega)
  replace Qx := S1Qx.below K1
  replace Qy := S1Qy.below K1
  replace Rz := S1Rz.below K1
  replace B := below_of S1B K1 S1B.size
  have sK1 := K1.size
  clear gr GB
  have la := Ia.room.lt
  have S2Ia := Ia
  have S2Qx := Qx
  have S2Qy := Qy
  have S2Rz := Rz
  have S2B := B
  obtain ⟨V2, hV2⟩ : ∃ V, w3x.alloc (.cells #[.bool false, .slice none 0 0] 45) = V := ⟨_, rfl⟩
  have AV2 : Below w3x.heap.size w3x V2 := hV2 ▸ (Below.refl _ _).alloc (Nat.le_refl _) _
  have zV2 : w3x.heap.size + 1 = V2.heap.size := by rw [← hV2]; simp
  replace Ia := Ia.below AV2
  replace Qx := Qx.below AV2
  replace Qy := Qy.below AV2
  replace Rz := Rz.below AV2
  have Rdr : Room V2 w3x.heap.size := hV2 ▸ room_new w3x
  replace B := below_of B AV2 B.size
  have sV2 := B.size
  go_wp2_with fail
  with_reducible refine (denom_any gx x1 y1 _ Qx p1).mono ?_
  rintro e w4 ⟨gp, hgp, rfl, hb, Ip⟩
  have b4 : Below V2.heap.size V2 w4 := hb
  replace Ia := Ia.below b4
  replace Qx := Qx.below b4
  replace Qy := Qy.below b4
  replace Rz := Rz.below b4
  replace Rdr := Rdr.below b4
  replace B := below_of B b4 B.size
  have sw4 := b4.size
  have lp := Ip.room.lt
  go_wp2_with fail
  with_reducible refine (denom_any gy x2 y2 _ Qy p2).mono ?_
  rintro e w5 ⟨gq, hgq, rfl, hb, Iq⟩
  have b5 : Below w4.heap.size w4 w5 := hb
  replace Ia := Ia.below b5
  replace Ip := Ip.below b5
  replace Qx := Qx.below b5
  replace Qy := Qy.below b5
  replace Rz := Rz.below b5
  replace Rdr := Rdr.below b5
  replace B := below_of B b5 B.size
  have sw5 := b5.size
  have lq := Iq.room.lt
  go_wp2_with fail
  have GB : Below w3x.heap.size w3x w5 := (below_of (below_of (below_of (Below.refl w3x.heap.size w3x) AV2 (by omega)) b4 (by omega)) b5 (by omega))
  with_reducible refine (mul_int w3x.heap.size gp gq (y1) (y2) _ Rdr Ip Iq (fits63 h2)).mono ?_
  rintro e w6x ⟨rfl, gr, Id⟩
  have K2 : Below w3x.heap.size w3x w6x := GB.grown gr GB.size (fun k hk => by injection hk with hk; omega)
  replace Ia := S2Ia.below K2
  replace Qx := S2Qx.below K2
  replace Qy := S2Qy.below K2
  replace Rz := S2Rz.below K2
  replace B := below_of S2B K2 S2B.size
  have sK2 := K2.size
  clear gr GB
  have ld := Id.room.lt
  go_wp2_with fail
  with_reducible refine (setFrac_int gz w.heap.size w3x.heap.size (x1 * x2) (y1 * y2) _ Rz Ia Id (pos_prod p1 p2) (by omega) (by omega)).mono ?_
  rintro e wz ⟨rfl, gr, Iz⟩
  go_wp2
  go_ret
  exact ⟨rfl, grown_trans (grown_of_below B) gr, Iz⟩

set_option maxRecDepth 100000 in
set_option maxHeartbeats 1000000 in
theorem radd_any (gz gx gy : Nat) (x1 y1 x2 y2 : Int) (w : World) (Rz : RatRoom w gz) (Qx : RatAt w gx x1 y1) (Qy : RatAt w gy x2 y2) (p1 : 0 < y1) (p2 : 0 < y2) (h1 : (x1 * y2).natAbs < 4611686018427387904) (h2 : (x2 * y1).natAbs < 4611686018427387904) (h3 : (y1 * y2).natAbs < 9223372036854775808) :
    Calls Try.prog 29 #[.pointer (some ⟨gz, 0, none⟩), .pointer (some ⟨gx, 0, none⟩), .pointer (some ⟨gy, 0, none⟩)] w fun e w' =>
      e = .returned (.pointer (some ⟨gz, 0, none⟩)) ∧ w.grownBy w' (some gz) ∧ RatAt w' gz (lN (x1 * y2 + x2 * y1) (y1 * y2)) (lD (x1 * y2 + x2 * y1) (y1 * y2)) := by
  have B := Below.refl w.heap.size w
  have hs0 := B.size
  have lz := Rz.lt
  have lx := Qx.room.lt
  have ly := Qy.room.lt
  go_enter Try.func29, Try.ntmps29
  have S1Qx := Qx
  have S1Qy := Qy
  have S1Rz := Rz
  have S1B := B
  obtain ⟨V1, hV1⟩ : ∃ V, w.alloc (.cells #[.bool false, .slice none 0 0] 45) = V := ⟨_, rfl⟩
  have AV1 : Below w.heap.size w V1 := hV1 ▸ (Below.refl _ _).alloc (Nat.le_refl _) _
  have zV1 : w.heap.size + 1 = V1.heap.size := by rw [← hV1]; simp
  replace Qx := Qx.below AV1
  replace Qy := Qy.below AV1
  replace Rz := Rz.below AV1
  have Rar : Room V1 w.heap.size := hV1 ▸ room_new w
  replace B := below_of B AV1 B.size
  have sV1 := B.size
  go_wp2_with fail
  with_reducible refine (num_any gx x1 y1 _ Qx).mono ?_
  rintro e w1 ⟨gp, hgp, rfl, hb, Ip⟩
  have b1 : Below V1.heap.size V1 w1 := hb
  replace Qx := Qx.below b1
  replace Qy := Qy.below b1
  replace Rz := Rz.below b1
  replace Rar := Rar.below b1
  replace B := below_of B b1 B.size
  have sw1 := b1.size
  have lp := Ip.room.lt
  go_wp2_with fail
  with_reducible refine (denom_any gy x2 y2 _ Qy p2).mono ?_
  rintro e w2 ⟨gq, hgq, rfl, hb, Iq⟩
  have b2 : Below w1.heap.size w1 w2 := hb
  replace Ip := Ip.below b2
  replace Qx := Qx.below b2
  replace Qy := Qy.below b2
  replace Rz := Rz.below b2
  replace Rar := Rar.below b2
  replace B := below_of B b2 B.size
  have sw2 := b2.size
  have lq := Iq.room.lt
  go_wp2_with fail
  have GB : Below w.heap.size w w2 := (below_of (below_of (below_of (Below.refl w.heap.size w) AV1 (by omega)) b1 (by omega)) b2 (by omega))
  with_reducible refine (mul_int w.heap.size gp gq (x1) (y2) _ Rar Ip Iq (fits63 (by omega))).mono ?_
  rintro e w3x ⟨rfl, gr, Ia⟩
  have K1 : Below w.heap.size w w3x := GB.grown gr GB.size (fun k hk => by injection hk with hk; omega)
  replace Qx := S1Qx.below K1
  replace Qy := S1Qy.below K1
  replace Rz := S1Rz.below K1
  replace B := below_of S1B K1 S1B.size
  have sK1 := K1.size
  clear gr GB
  have la := Ia.room.lt
  have S2Ia := Ia
  have S2Qx := Qx
  have S2Qy := Qy
  have S2Rz := Rz
  have S2B := B
  obtain ⟨V2, hV2⟩ : ∃ V, w3x.alloc (.cells #[.bool false, .slice none 0 0] 45) = V := ⟨_, rfl⟩
  have AV2 : Below w3x.heap.size w3x V2 := hV2 ▸ (Below.refl _ _).alloc (Nat.le_refl _) _
  have zV2 : w3x.heap.size + 1 = V2.heap.size := by rw [← hV2]; simp
  replace Ia := Ia.below AV2
  replace Qx := Qx.below AV2
  replace Qy := Qy.below AV2
  replace Rz := Rz.below AV2
  have Rbr : Room V2 w3x.heap.size := hV2 ▸ room_new w3x
  replace B := below_of B AV2 B.size
  have sV2 := B.size
  go_wp2_with fail
  with_reducible refine (num_any gy x2 y2 _ Qy).mono ?_
  rintro e w4 ⟨gp, hgp, rfl, hb, Ip⟩
  have b4 : Below V2.heap.size V2 w4 := hb
  replace Ia := Ia.below b4
  replace Qx := Qx.below b4
  replace Qy := Qy.below b4
  replace Rz := Rz.below b4
  replace Rbr := Rbr.below b4
  replace B := below_of B b4 B.size
  have sw4 := b4.size
  have lp := Ip.room.lt
  go_wp2_with fail
  with_reducible refine (denom_any gx x1 y1 _ Qx p1).mono ?_
  rintro e w5 ⟨gq, hgq, rfl, hb, Iq⟩
  have b5 : Below w4.heap.size w4 w5 := hb
  replace Ia := Ia.below b5
  replace Ip := Ip.below b5
  replace Qx := Qx.below b5
  replace Qy := Qy.below b5
  replace Rz := Rz.below b5
  replace Rbr := Rbr.below b5
  replace B := below_of B b5 B.size
  have sw5 := b5.size
  have lq := Iq.room.lt
  go_wp2_with fail
  have GB : Below w3x.heap.size w3x w5 := (below_of (below_of (below_of (Below.refl w3x.heap.size w3x) AV2 (by omega)) b4 (by omega)) b5 (by omega))
  with_reducible refine (mul_int w3x.heap.size gp gq (x2) (y1) _ Rbr Ip Iq (fits63 (by omega))).mono ?_
  rintro e w6x ⟨rfl, gr, Ib⟩
  have K2 : Below w3x.heap.size w3x w6x := GB.grown gr GB.size (fun k hk => by injection hk with hk; omega)
  replace Ia := S2Ia.below K2
  replace Qx := S2Qx.below K2
  replace Qy := S2Qy.below K2
  replace Rz := S2Rz.below K2
  replace B := below_of S2B K2 S2B.size
  have sK2 := K2.size
  clear gr GB
  have lb := Ib.room.lt
  go_wp2_with fail
  have GB : Below w.heap.size w w6x := below_of K1 K2 (by omega)
  with_reducible refine (add_int w.heap.size w.heap.size w3x.heap.size (x1 * y2) (x2 * y1) _ Ia.room Ia Ib (fits63 (by omega))).mono ?_
  rintro e w7x ⟨rfl, gr, Ia2⟩
  have K1 : Below w.heap.size w w7x := GB.grown gr GB.size (fun k hk => by injection hk with hk; omega)
  replace Qx := S1Qx.below K1
  replace Qy := S1Qy.below K1
  replace Rz := S1Rz.below K1
  replace B := below_of S1B K1 S1B.size
  have sK1 := K1.size
  clear gr GB
  have la2 := Ia2.room.lt
  have Ia := Ia2
  have S3Ia := Ia
  have S3Qx := Qx
  have S3Qy := Qy
  have S3Rz := Rz
  have S3B := B
  obtain ⟨V3, hV3⟩ : ∃ V, w7x.alloc (.cells #[.bool false, .slice none 0 0] 45) = V := ⟨_, rfl⟩
  have AV3 : Below w7x.heap.size w7x V3 := hV3 ▸ (Below.refl _ _).alloc (Nat.le_refl _) _
  have zV3 : w7x.heap.size + 1 = V3.heap.size := by rw [← hV3]; simp
  replace Ia := Ia.below AV3
  replace Qx := Qx.below AV3
  replace Qy := Qy.below AV3
  replace Rz := Rz.below AV3
  have Rdr : Room V3 w7x.heap.size := hV3 ▸ room_new w7x
  replace B := below_of B AV3 B.size
  have sV3 := B.size
  go_wp2_with fail
  with_reducible refine (denom_any gx x1 y1 _ Qx p1).mono ?_
  rintro e w8 ⟨gp, hgp, rfl, hb, Ip⟩
  have b8 : Below V3.heap.size V3 w8 := hb
  replace Ia := Ia.below b8
  replace Qx := Qx.below b8
  replace Qy := Qy.below b8
  replace Rz := Rz.below b8
  replace Rdr := Rdr.below b8
  replace B := below_of B b8 B.size
  have sw8 := b8.size
  have lp := Ip.room.lt
  go_wp2_with fail
  with_reducible refine (denom_any gy x2 y2 _ Qy p2).mono ?_
  rintro e w9 ⟨gq, hgq, rfl, hb, Iq⟩
  have b9 : Below w8.heap.size w8 w9 := hb
  replace Ia := Ia.below b9
  replace Ip := Ip.below b9
  replace Qx := Qx.below b9
  replace Qy := Qy.below b9
  replace Rz := Rz.below b9
  replace Rdr := Rdr.below b9
  replace B := below_of B b9 B.size
  have sw9 := b9.size
  have lq := Iq.room.lt
  go_wp2_with fail
  have GB : Below w7x.heap.size w7x w9 := (below_of (below_of (below_of (Below.refl w7x.heap.size w7x) AV3 (by omega)) b8 (by omega)) b9 (by omega))
  with_reducible refine (mul_int w7x.heap.size gp gq (y1) (y2) _ Rdr Ip Iq (fits63 h3)).mono ?_
  rintro e w10x ⟨rfl, gr, Id⟩
  have K3 : Below w7x.heap.size w7x w10x := GB.grown gr GB.size (fun k hk => by injection hk with hk; omega)
  replace Ia := S3Ia.below K3
  replace Qx := S3Qx.below K3
  replace Qy := S3Qy.below K3
  replace Rz := S3Rz.below K3
  replace B := below_of S3B K3 S3B.size
  have sK3 := K3.size
  clear gr GB
  have ld := Id.room.lt
  go_wp2_with fail
  with_reducible refine (setFrac_int gz w.heap.size w7x.heap.size (x1 * y2 + x2 * y1) (y1 * y2) _ Rz Ia Id (pos_prod p1 p2) (by omega) (by omega)).mono ?_
  rintro e wz ⟨rfl, gr, Iz⟩
  go_wp2
  go_ret
  exact ⟨rfl, grown_trans (grown_of_below B) gr, Iz⟩

end Go.Proofs.Ytemoleopabddnaa
