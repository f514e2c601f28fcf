/- FracRounds of package weirhouselaw: its walk, where the operand is valid. -/
import Derived.Test.YtfopcipapphogaaFRnd1
import Derived.Test.YtfopcipapphogaaRat7
import Derived.Test.YtfopcipapphogaaFr3
namespace Go.Proofs.Ytfopcipapphogaa
open Go.RowKit

set_option maxRecDepth 100000 in
set_option maxHeartbeats 4000000 in
theorem frnd_yes (an ad n r : Int) (ln ld dn up x y e2 D0 : Int) (h1 : FOk an ad) (py : 0 < y)
    (c1 : ∀ w, Calls Try.prog 43 #[.int .u64 n] w fun e w' => e = .returned (.int .u64 r) ∧ w = w')
    (c2 : ∀ w, Calls Try.prog 21 #[.int .u64 n] w (NewInt w n))
    (c3 : ∀ gz gx w, Room w gz → IntAt w gx n → Calls Try.prog 44 #[.pointer (some ⟨gz, 0, none⟩), .pointer (some ⟨gx, 0, none⟩)] w fun e w' => e = .returned (.pointer (some ⟨gz, 0, none⟩)) ∧ w.grownBy w' (some gz) ∧ IntAt w' gz r)
    (c4 : ∀ g w, IntAt w g r → Calls Try.prog 26 #[.pointer (some ⟨g, 0, none⟩)] w fun e w' => e = .returned (.int .u64 r) ∧ w = w')
    (c5 : ∀ w, Calls Try.prog 40 #[.agg #[.int .i64 an, .int .i64 ad]] w fun e w' => e = .returned (.tuple #[.agg #[.int .i64 ln, .int .i64 ld], .int .i64 0]) ∧ Below w.heap.size w w')
    (c6 : ∀ w, Calls Try.prog 41 #[.agg #[.int .i64 an, .int .i64 ad]] w fun e w' => e = .returned (.tuple #[.int .i64 dn, .int .i64 0]) ∧ Below w.heap.size w w')
    (c7 : ∀ w, Calls Try.prog 42 #[.agg #[.int .i64 an, .int .i64 ad]] w fun e w' => e = .returned (.tuple #[.int .i64 up, .int .i64 0]) ∧ Below w.heap.size w w')
    (d1 : ∀ w, Calls Try.prog 35 #[.agg #[.int .i64 an, .int .i64 ad]] w (NewRat w x y))
    (d2 : ∀ g w, RatAt w g x y → Calls Try.prog 36 #[.pointer (some ⟨g, 0, none⟩)] w fun e w' => e = .returned (.tuple #[.agg #[.int .i64 ln, .int .i64 ld], .int .i64 e2]) ∧ Below w.heap.size w w')
    (d3 : ∀ gz gx gy w, Room w gz → IntAt w gx x → IntAt w gy y → Calls Try.prog 23 #[.pointer (some ⟨gz, 0, none⟩), .pointer (some ⟨gx, 0, none⟩), .pointer (some ⟨gy, 0, none⟩)] w fun e w' => e = .returned (.pointer (some ⟨gz, 0, none⟩)) ∧ w.grownBy w' (some gz) ∧ IntAt w' gz dn)
    (d4 : ∀ gz gx gy w, Room w gz → IntAt w gx (-x) → IntAt w gy y → Calls Try.prog 23 #[.pointer (some ⟨gz, 0, none⟩), .pointer (some ⟨gx, 0, none⟩), .pointer (some ⟨gy, 0, none⟩)] w fun e w' => e = .returned (.pointer (some ⟨gz, 0, none⟩)) ∧ w.grownBy w' (some gz) ∧ IntAt w' gz D0)
    (d5 : ∀ g w, IntAt w g dn → Calls Try.prog 48 #[.pointer (some ⟨g, 0, none⟩)] w fun e w' => e = .returned (.int .i64 dn) ∧ w = w')
    (d6 : ∀ g w, IntAt w g (-D0) → Calls Try.prog 48 #[.pointer (some ⟨g, 0, none⟩)] w fun e w' => e = .returned (.int .i64 up) ∧ w = w') (w : World) :
    Calls Try.prog 6 #[.agg #[.int .i64 an, .int .i64 ad], .int .u64 n] w fun e w' => e = .returned (.bool true) ∧ Below w.heap.size w w' := by
  have B := Below.refl w.heap.size w
  have hs0 := B.size
  obtain ⟨V1, hV1⟩ : ∃ V, w.alloc (.cells #[.int .i64 (an), .int .i64 (ad)] 50) = V := ⟨_, rfl⟩
  have AV1 : Below w.heap.size w V1 := hV1 ▸ (Below.refl _ _).alloc (Nat.le_refl _) _
  have zV1 : w.heap.size + 1 = V1.heap.size := by rw [← hV1]; simp
  have Pa : FAt V1 w.heap.size (an) (ad) := hV1 ▸ FAt.new w _ _
  replace B := below_of B AV1 B.size
  have sV1 := B.size
  go_enter Try.func6, Try.ntmps6
  obtain ⟨pa, qa, ra, fa, ga⟩ := id Pa
  go_wp2_with fail
  try rw [hV1]
  with_reducible refine (c5 _).mono ?_
  rintro e w1 ⟨rfl, hb⟩
  have b1 : Below V1.heap.size V1 w1 := hb
  replace Pa := Pa.below b1
  replace B := below_of B b1 B.size
  have sw1 := b1.size
  obtain ⟨V2, hV2⟩ : ∃ V, w1.alloc (.cells #[.int .i64 (ln), .int .i64 (ld)] 50) = V := ⟨_, rfl⟩
  have AV2 : Below w1.heap.size w1 V2 := hV2 ▸ (Below.refl _ _).alloc (Nat.le_refl _) _
  have zV2 : w1.heap.size + 1 = V2.heap.size := by rw [← hV2]; simp
  replace Pa := Pa.below AV2
  have Pl : FAt V2 w1.heap.size (ln) (ld) := hV2 ▸ FAt.new w1 _ _
  replace B := below_of B AV2 B.size
  have sV2 := B.size
  obtain ⟨pa, qa, ra, fa, ga⟩ := id Pa
  obtain ⟨pl, ql, rl, fl, gl⟩ := id Pl
  go_wp2_with fail
  try rw [hV2]
  with_reducible refine (c6 _).mono ?_
  rintro e w2 ⟨rfl, hb⟩
  have b2 : Below V2.heap.size V2 w2 := hb
  replace Pa := Pa.below b2
  replace Pl := Pl.below b2
  replace B := below_of B b2 B.size
  have sw2 := b2.size
  obtain ⟨pa, qa, ra, fa, ga⟩ := id Pa
  obtain ⟨pl, ql, rl, fl, gl⟩ := id Pl
  go_wp2_with fail
  with_reducible refine (c7 _).mono ?_
  rintro e w3 ⟨rfl, hb⟩
  have b3 : Below w2.heap.size w2 w3 := hb
  replace Pa := Pa.below b3
  replace Pl := Pl.below b3
  replace B := below_of B b3 B.size
  have sw3 := b3.size
  obtain ⟨pa, qa, ra, fa, ga⟩ := id Pa
  obtain ⟨pl, ql, rl, fl, gl⟩ := id Pl
  go_wp2_with fail
  with_reducible refine (c1 _).mono ?_
  rintro e wq ⟨rfl, hq⟩
  subst hq
  have S1Pa := Pa
  have S1Pl := Pl
  have S1B := B
  obtain ⟨V3, hV3⟩ : ∃ V, w3.alloc (.cells #[.bool false, .slice none 0 0] 32) = V := ⟨_, rfl⟩
  have AV3 : Below w3.heap.size w3 V3 := hV3 ▸ (Below.refl _ _).alloc (Nat.le_refl _) _
  have zV3 : w3.heap.size + 1 = V3.heap.size := by rw [← hV3]; simp
  replace Pa := Pa.below AV3
  replace Pl := Pl.below AV3
  have Rs : Room V3 w3.heap.size := hV3 ▸ room_new w3
  replace B := below_of B AV3 B.size
  have sV3 := B.size
  obtain ⟨pa, qa, ra, fa, ga⟩ := id Pa
  obtain ⟨pl, ql, rl, fl, gl⟩ := id Pl
  go_wp2_with fail
  with_reducible refine (c2 _).mono ?_
  rintro e w4 ⟨gx, hgx, rfl, hb, Ix⟩
  have b4 : Below V3.heap.size V3 w4 := hb
  replace Pa := Pa.below b4
  replace Pl := Pl.below b4
  replace Rs := Rs.below b4
  replace B := below_of B b4 B.size
  have sw4 := b4.size
  have lx := Ix.room.lt
  obtain ⟨pa, qa, ra, fa, ga⟩ := id Pa
  obtain ⟨pl, ql, rl, fl, gl⟩ := id Pl
  go_wp2_with fail
  have GB : Below w3.heap.size w3 w4 := (below_of (below_of (Below.refl w3.heap.size w3) AV3 (by omega)) b4 (by omega))
  with_reducible refine (c3 w3.heap.size gx _ Rs Ix).mono ?_
  rintro e w5x ⟨rfl, gr, Is⟩
  have K1 : Below w3.heap.size w3 w5x := GB.grown gr GB.size (fun k hk => by injection hk with hk; omega)
  replace Pa := S1Pa.below K1
  replace Pl := S1Pl.below K1
  replace B := below_of S1B K1 S1B.size
  have sK1 := K1.size
  clear gr GB
  have ls := Is.room.lt
  obtain ⟨pa, qa, ra, fa, ga⟩ := id Pa
  obtain ⟨pl, ql, rl, fl, gl⟩ := id Pl
  go_wp2_with fail
  with_reducible refine (c4 _ _ Is).mono ?_
  rintro e wq ⟨rfl, hq⟩
  subst hq
  obtain ⟨pa, qa, ra, fa, ga⟩ := id Pa
  obtain ⟨pl, ql, rl, fl, gl⟩ := id Pl
  go_wp2_with fail
  with_reducible refine (bright_yes h1 _).mono ?_
  rintro e w6 ⟨rfl, hb⟩
  have b6 : Below w5x.heap.size w5x w6 := hb
  replace Pa := Pa.below b6
  replace Pl := Pl.below b6
  replace B := below_of B b6 B.size
  have sw6 := b6.size
  obtain ⟨pa, qa, ra, fa, ga⟩ := id Pa
  obtain ⟨pl, ql, rl, fl, gl⟩ := id Pl
  go_wp2_with fail
  with_reducible refine (d1 _).mono ?_
  rintro e w7 ⟨gx, hgx, rfl, hb, Qx⟩
  have b7 : Below w6.heap.size w6 w7 := hb
  replace Pa := Pa.below b7
  replace Pl := Pl.below b7
  replace B := below_of B b7 B.size
  have sw7 := b7.size
  have lx := Qx.room.lt
  obtain ⟨pa, qa, ra, fa, ga⟩ := id Pa
  obtain ⟨pl, ql, rl, fl, gl⟩ := id Pl
  go_wp2_with fail
  with_reducible refine (d2 _ _ Qx).mono ?_
  rintro e w8 ⟨rfl, hb⟩
  have b8 : Below w7.heap.size w7 w8 := hb
  replace Pa := Pa.below b8
  replace Pl := Pl.below b8
  replace Qx := Qx.below b8
  replace B := below_of B b8 B.size
  have sw8 := b8.size
  obtain ⟨V4, hV4⟩ : ∃ V, w8.alloc (.cells #[.int .i64 (ln), .int .i64 (ld)] 50) = V := ⟨_, rfl⟩
  have AV4 : Below w8.heap.size w8 V4 := hV4 ▸ (Below.refl _ _).alloc (Nat.le_refl _) _
  have zV4 : w8.heap.size + 1 = V4.heap.size := by rw [← hV4]; simp
  replace Pa := Pa.below AV4
  replace Pl := Pl.below AV4
  replace Qx := Qx.below AV4
  have Pm : FAt V4 w8.heap.size (ln) (ld) := hV4 ▸ FAt.new w8 _ _
  replace B := below_of B AV4 B.size
  have sV4 := B.size
  have S2Pa := Pa
  have S2Pl := Pl
  have S2Pm := Pm
  have S2Qx := Qx
  have S2B := B
  obtain ⟨V5, hV5⟩ : ∃ V, V4.alloc (.cells #[.bool false, .slice none 0 0] 32) = V := ⟨_, rfl⟩
  have AV5 : Below V4.heap.size V4 V5 := hV5 ▸ (Below.refl _ _).alloc (Nat.le_refl _) _
  have zV5 : V4.heap.size + 1 = V5.heap.size := by rw [← hV5]; simp
  replace Pa := Pa.below AV5
  replace Pl := Pl.below AV5
  replace Pm := Pm.below AV5
  replace Qx := Qx.below AV5
  have Rd : Room V5 V4.heap.size := hV5 ▸ room_new V4
  replace B := below_of B AV5 B.size
  have sV5 := B.size
  obtain ⟨pa, qa, ra, fa, ga⟩ := id Pa
  obtain ⟨pl, ql, rl, fl, gl⟩ := id Pl
  obtain ⟨pm, qm, rm, fm, gm⟩ := id Pm
  go_wp2_with fail
  try rw [hV4]
  with_reducible refine (num_any gx x y _ Qx).mono ?_
  rintro e w9 ⟨gp, hgp, rfl, hb, Ip⟩
  have b9 : Below V5.heap.size V5 w9 := hb
  replace Pa := Pa.below b9
  replace Pl := Pl.below b9
  replace Pm := Pm.below b9
  replace Qx := Qx.below b9
  replace Rd := Rd.below b9
  replace B := below_of B b9 B.size
  have sw9 := b9.size
  have lp := Ip.room.lt
  obtain ⟨pa, qa, ra, fa, ga⟩ := id Pa
  obtain ⟨pl, ql, rl, fl, gl⟩ := id Pl
  obtain ⟨pm, qm, rm, fm, gm⟩ := id Pm
  go_wp2_with fail
  with_reducible refine (denom_any gx x y _ Qx py).mono ?_
  rintro e w10 ⟨gq, hgq, rfl, hb, Iq⟩
  have b10 : Below w9.heap.size w9 w10 := hb
  replace Pa := Pa.below b10
  replace Pl := Pl.below b10
  replace Pm := Pm.below b10
  replace Ip := Ip.below b10
  replace Qx := Qx.below b10
  replace Rd := Rd.below b10
  replace B := below_of B b10 B.size
  have sw10 := b10.size
  have lq := Iq.room.lt
  obtain ⟨pa, qa, ra, fa, ga⟩ := id Pa
  obtain ⟨pl, ql, rl, fl, gl⟩ := id Pl
  obtain ⟨pm, qm, rm, fm, gm⟩ := id Pm
  go_wp2_with fail
  have GB : Below V4.heap.size V4 w10 := (below_of (below_of (below_of (Below.refl V4.heap.size V4) AV5 (by omega)) b9 (by omega)) b10 (by omega))
  with_reducible refine (d3 V4.heap.size gp gq _ Rd Ip Iq).mono ?_
  rintro e w11x ⟨rfl, gr, Id⟩
  have K2 : Below V4.heap.size V4 w11x := GB.grown gr GB.size (fun k hk => by injection hk with hk; omega)
  replace Pa := S2Pa.below K2
  replace Pl := S2Pl.below K2
  replace Pm := S2Pm.below K2
  replace Qx := S2Qx.below K2
  replace B := below_of S2B K2 S2B.size
  have sK2 := K2.size
  clear gr GB
  have ld := Id.room.lt
  have S3Pa := Pa
  have S3Pl := Pl
  have S3Pm := Pm
  have S3Id := Id
  have S3Qx := Qx
  have S3B := B
  obtain ⟨V6, hV6⟩ : ∃ V, w11x.alloc (.cells #[.bool false, .slice none 0 0] 32) = V := ⟨_, rfl⟩
  have AV6 : Below w11x.heap.size w11x V6 := hV6 ▸ (Below.refl _ _).alloc (Nat.le_refl _) _
  have zV6 : w11x.heap.size + 1 = V6.heap.size := by rw [← hV6]; simp
  replace Pa := Pa.below AV6
  replace Pl := Pl.below AV6
  replace Pm := Pm.below AV6
  replace Id := Id.below AV6
  replace Qx := Qx.below AV6
  have Ri : Room V6 w11x.heap.size := hV6 ▸ room_new w11x
  replace B := below_of B AV6 B.size
  have sV6 := B.size
  have S4Pa := Pa
  have S4Pl := Pl
  have S4Pm := Pm
  have S4Id := Id
  have S4Qx := Qx
  have S4Ri := Ri
  have S4B := B
  obtain ⟨V7, hV7⟩ : ∃ V, V6.alloc (.cells #[.bool false, .slice none 0 0] 32) = V := ⟨_, rfl⟩
  have AV7 : Below V6.heap.size V6 V7 := hV7 ▸ (Below.refl _ _).alloc (Nat.le_refl _) _
  have zV7 : V6.heap.size + 1 = V7.heap.size := by rw [← hV7]; simp
  replace Pa := Pa.below AV7
  replace Pl := Pl.below AV7
  replace Pm := Pm.below AV7
  replace Id := Id.below AV7
  replace Qx := Qx.below AV7
  replace Ri := Ri.below AV7
  have Rj : Room V7 V6.heap.size := hV7 ▸ room_new V6
  replace B := below_of B AV7 B.size
  have sV7 := B.size
  have S5Pa := Pa
  have S5Pl := Pl
  have S5Pm := Pm
  have S5Id := Id
  have S5Qx := Qx
  have S5Ri := Ri
  have S5Rj := Rj
  have S5B := B
  obtain ⟨V8, hV8⟩ : ∃ V, V7.alloc (.cells #[.bool false, .slice none 0 0] 32) = V := ⟨_, rfl⟩
  have AV8 : Below V7.heap.size V7 V8 := hV8 ▸ (Below.refl _ _).alloc (Nat.le_refl _) _
  have zV8 : V7.heap.size + 1 = V8.heap.size := by rw [← hV8]; simp
  replace Pa := Pa.below AV8
  replace Pl := Pl.below AV8
  replace Pm := Pm.below AV8
  replace Id := Id.below AV8
  replace Qx := Qx.below AV8
  replace Ri := Ri.below AV8
  replace Rj := Rj.below AV8
  have Rk : Room V8 V7.heap.size := hV8 ▸ room_new V7
  replace B := below_of B AV8 B.size
  have sV8 := B.size
  obtain ⟨pa, qa, ra, fa, ga⟩ := id Pa
  obtain ⟨pl, ql, rl, fl, gl⟩ := id Pl
  obtain ⟨pm, qm, rm, fm, gm⟩ := id Pm
  go_wp2_with fail
  with_reducible refine (num_any gx x y _ Qx).mono ?_
  rintro e w12 ⟨gp, hgp, rfl, hb, Ip⟩
  have b12 : Below V8.heap.size V8 w12 := hb
  replace Pa := Pa.below b12
  replace Pl := Pl.below b12
  replace Pm := Pm.below b12
  replace Id := Id.below b12
  replace Qx := Qx.below b12
  replace Ri := Ri.below b12
  replace Rj := Rj.below b12
  replace Rk := Rk.below b12
  replace B := below_of B b12 B.size
  have sw12 := b12.size
  have lp := Ip.room.lt
  obtain ⟨pa, qa, ra, fa, ga⟩ := id Pa
  obtain ⟨pl, ql, rl, fl, gl⟩ := id Pl
  obtain ⟨pm, qm, rm, fm, gm⟩ := id Pm
  go_wp2_with fail
  have GB : Below V7.heap.size V7 w12 := (below_of (below_of (Below.refl V7.heap.size V7) AV8 (by omega)) b12 (by omega))
  with_reducible refine (neg_int V7.heap.size gp x _ (by omega) Rk Ip).mono ?_
  rintro e w13x ⟨rfl, gr, Ik⟩
  have K5 : Below V7.heap.size V7 w13x := GB.grown gr GB.size (fun k hk => by injection hk with hk; omega)
  replace Pa := S5Pa.below K5
  replace Pl := S5Pl.below K5
  replace Pm := S5Pm.below K5
  replace Id := S5Id.below K5
  replace Qx := S5Qx.below K5
  replace Ri := S5Ri.below K5
  replace Rj := S5Rj.below K5
  replace B := below_of S5B K5 S5B.size
  have sK5 := K5.size
  clear gr GB
  have lk := Ik.room.lt
  obtain ⟨pa, qa, ra, fa, ga⟩ := id Pa
  obtain ⟨pl, ql, rl, fl, gl⟩ := id Pl
  obtain ⟨pm, qm, rm, fm, gm⟩ := id Pm
  go_wp2_with fail
  with_reducible refine (denom_any gx x y _ Qx py).mono ?_
  rintro e w14 ⟨gq, hgq, rfl, hb, Iq⟩
  have b14 : Below w13x.heap.size w13x w14 := hb
  replace Pa := Pa.below b14
  replace Pl := Pl.below b14
  replace Pm := Pm.below b14
  replace Id := Id.below b14
  replace Ik := Ik.below b14
  replace Qx := Qx.below b14
  replace Ri := Ri.below b14
  replace Rj := Rj.below b14
  replace B := below_of B b14 B.size
  have sw14 := b14.size
  have lq := Iq.room.lt
  obtain ⟨pa, qa, ra, fa, ga⟩ := id Pa
  obtain ⟨pl, ql, rl, fl, gl⟩ := id Pl
  obtain ⟨pm, qm, rm, fm, gm⟩ := id Pm
  go_wp2_with fail
  have GB : Below V6.heap.size V6 w14 := (below_of (below_of (below_of (Below.refl V6.heap.size V6) AV7 (by omega)) K5 (by omega)) b14 (by omega))
  with_reducible refine (d4 V6.heap.size V7.heap.size gq _ Rj Ik Iq).mono ?_
  rintro e w15x ⟨rfl, gr, Ij⟩
  have K4 : Below V6.heap.size V6 w15x := GB.grown gr GB.size (fun k hk => by injection hk with hk; omega)
  replace Pa := S4Pa.below K4
  replace Pl := S4Pl.below K4
  replace Pm := S4Pm.below K4
  replace Id := S4Id.below K4
  replace Qx := S4Qx.below K4
  replace Ri := S4Ri.below K4
  replace B := below_of S4B K4 S4B.size
  have sK4 := K4.size
  clear gr GB
  have lj := Ij.room.lt
  obtain ⟨pa, qa, ra, fa, ga⟩ := id Pa
  obtain ⟨pl, ql, rl, fl, gl⟩ := id Pl
  obtain ⟨pm, qm, rm, fm, gm⟩ := id Pm
  go_wp2_with fail
  have GB : Below w11x.heap.size w11x w15x := (below_of (below_of (Below.refl w11x.heap.size w11x) AV6 (by omega)) K4 (by omega))
  with_reducible refine (neg_int w11x.heap.size V6.heap.size D0 _ (by omega) Ri Ij).mono ?_
  rintro e w16x ⟨rfl, gr, Ii⟩
  have K3 : Below w11x.heap.size w11x w16x := GB.grown gr GB.size (fun k hk => by injection hk with hk; omega)
  replace Pa := S3Pa.below K3
  replace Pl := S3Pl.below K3
  replace Pm := S3Pm.below K3
  replace Id := S3Id.below K3
  replace Qx := S3Qx.below K3
  replace B := below_of S3B K3 S3B.size
  have sK3 := K3.size
  clear gr GB
  have li := Ii.room.lt
  obtain ⟨pa, qa, ra, fa, ga⟩ := id Pa
  obtain ⟨pl, ql, rl, fl, gl⟩ := id Pl
  obtain ⟨pm, qm, rm, fm, gm⟩ := id Pm
  go_wp2_with fail
  with_reducible refine (d5 _ _ Id).mono ?_
  rintro e wq ⟨rfl, hq⟩
  subst hq
  obtain ⟨pa, qa, ra, fa, ga⟩ := id Pa
  obtain ⟨pl, ql, rl, fl, gl⟩ := id Pl
  obtain ⟨pm, qm, rm, fm, gm⟩ := id Pm
  go_wp2_with fail
  with_reducible refine (d6 _ _ Ii).mono ?_
  rintro e wq ⟨rfl, hq⟩
  subst hq
  obtain ⟨pa, qa, ra, fa, ga⟩ := id Pa
  obtain ⟨pl, ql, rl, fl, gl⟩ := id Pl
  obtain ⟨pm, qm, rm, fm, gm⟩ := id Pm
  go_wp2_with fail
  go_ret
  exact ⟨by simp, B⟩

end Go.Proofs.Ytfopcipapphogaa
