/- The reference's BFrac: a contract. -/
import Derived.Test.YtfopcipapphogaaRat6
namespace Go.Proofs.Ytfopcipapphogaa
open Go.RowKit

theorem bright_yes {n d : Int} (h : FOk n d) (w : World) :
    Calls Try.prog 34 #[.agg #[.int .i64 n, .int .i64 d]] w fun e w' => e = .returned (.bool true) ∧ Below w.heap.size w w' :=
  (bright_any n d w).mono fun _ _ ⟨he, hb⟩ => ⟨by rw [he, decide_eq_true h], hb⟩
theorem bright_no {n d : Int} (h : ¬ FOk n d) (w : World) :
    Calls Try.prog 34 #[.agg #[.int .i64 n, .int .i64 d]] w fun e w' => e = .returned (.bool false) ∧ Below w.heap.size w w' :=
  (bright_any n d w).mono fun _ _ ⟨he, hb⟩ => ⟨by rw [he, decide_eq_false h], hb⟩

set_option maxRecDepth 100000 in
set_option maxHeartbeats 1000000 in
theorem bfrac_yes (gx : Nat) (x y : Int) (w : World) (Qx : RatAt w gx x y) (p1 : 0 < y) (hx : x.natAbs < 9223372036854775808) (hy : y.natAbs < 9223372036854775808) (hk : FOk x y) :
    Calls Try.prog 36 #[.pointer (some ⟨gx, 0, none⟩)] w fun e w' => e = .returned (.tuple #[.agg #[.int .i64 x, .int .i64 y], .int .i64 0]) ∧ Below w.heap.size w w' := by
  have B := Below.refl w.heap.size w
  have hs0 := B.size
  have lx := Qx.room.lt
  obtain ⟨V1, hV1⟩ : ∃ V, w.alloc (.cells #[.int .i64 (0), .int .i64 (0)] 50) = V := ⟨_, rfl⟩
  have AV1 : Below w.heap.size w V1 := hV1 ▸ (Below.refl _ _).alloc (Nat.le_refl _) _
  have zV1 : w.heap.size + 1 = V1.heap.size := by rw [← hV1]; simp
  replace Qx := Qx.below AV1
  have Po : FAt V1 w.heap.size (0) (0) := hV1 ▸ FAt.new w _ _
  replace B := below_of B AV1 B.size
  have sV1 := B.size
  go_enter Try.func36, Try.ntmps36
  obtain ⟨po, qo, ro, fo, go⟩ := id Po
  go_wp2_with fail
  try rw [hV1]
  with_reducible refine (num_any gx x y _ Qx).mono ?_
  rintro e w1 ⟨gp, hgp, rfl, hb, Ip⟩
  have b1 : Below V1.heap.size V1 w1 := hb
  replace Po := Po.below b1
  replace Qx := Qx.below b1
  replace B := below_of B b1 B.size
  have sw1 := b1.size
  have lp := Ip.room.lt
  obtain ⟨po, qo, ro, fo, go⟩ := id Po
  go_wp2_with fail
  with_reducible refine (isInt64_yes _ _ _ Ip hx).mono ?_
  rintro e wq ⟨rfl, hq⟩
  subst hq
  obtain ⟨po, qo, ro, fo, go⟩ := id Po
  go_wp2_with fail
  with_reducible refine (denom_any gx x y _ Qx p1).mono ?_
  rintro e w2 ⟨gq, hgq, rfl, hb, Iq⟩
  have b2 : Below w1.heap.size w1 w2 := hb
  replace Po := Po.below b2
  replace Ip := Ip.below b2
  replace Qx := Qx.below b2
  replace B := below_of B b2 B.size
  have sw2 := b2.size
  have lq := Iq.room.lt
  obtain ⟨po, qo, ro, fo, go⟩ := id Po
  go_wp2_with fail
  with_reducible refine (isInt64_yes _ _ _ Iq hy).mono ?_
  rintro e wq ⟨rfl, hq⟩
  subst hq
  obtain ⟨po, qo, ro, fo, go⟩ := id Po
  go_wp2_with fail
  with_reducible refine (num_any gx x y _ Qx).mono ?_
  rintro e w3 ⟨gr, hgr, rfl, hb, Ir⟩
  have b3 : Below w2.heap.size w2 w3 := hb
  replace Po := Po.below b3
  replace Ip := Ip.below b3
  replace Iq := Iq.below b3
  replace Qx := Qx.below b3
  replace B := below_of B b3 B.size
  have sw3 := b3.size
  have lr := Ir.room.lt
  obtain ⟨po, qo, ro, fo, go⟩ := id Po
  go_wp2_with fail
  with_reducible refine (int64_any _ _ _ Ir hx).mono ?_
  rintro e wq ⟨rfl, hq⟩
  subst hq
  obtain ⟨po, qo, ro, fo, go⟩ := id Po
  go_wp2_with fail
  with_reducible refine (denom_any gx x y _ Qx p1).mono ?_
  rintro e w4 ⟨gs, hgs, rfl, hb, Is⟩
  have b4 : Below w3.heap.size w3 w4 := hb
  replace Po := Po.below b4
  replace Ip := Ip.below b4
  replace Iq := Iq.below b4
  replace Ir := Ir.below b4
  replace Qx := Qx.below b4
  replace B := below_of B b4 B.size
  have sw4 := b4.size
  have ls := Is.room.lt
  obtain ⟨po, qo, ro, fo, go⟩ := id Po
  go_wp2_with fail
  with_reducible refine (int64_any _ _ _ Is hy).mono ?_
  rintro e wq ⟨rfl, hq⟩
  subst hq
  obtain ⟨V2, hV2⟩ : ∃ V, w4.alloc (.cells #[.int .i64 (x), .int .i64 (y)] 50) = V := ⟨_, rfl⟩
  have AV2 : Below w4.heap.size w4 V2 := hV2 ▸ (Below.refl _ _).alloc (Nat.le_refl _) _
  have zV2 : w4.heap.size + 1 = V2.heap.size := by rw [← hV2]; simp
  replace Po := Po.below AV2
  replace Ip := Ip.below AV2
  replace Iq := Iq.below AV2
  replace Ir := Ir.below AV2
  replace Is := Is.below AV2
  replace Qx := Qx.below AV2
  have Pa : FAt V2 w4.heap.size (x) (y) := hV2 ▸ FAt.new w4 _ _
  replace B := below_of B AV2 B.size
  have sV2 := B.size
  obtain ⟨po, qo, ro, fo, go⟩ := id Po
  obtain ⟨pa, qa, ra, fa, ga⟩ := id Pa
  go_wp2_with fail
  try rw [hV2]
  with_reducible refine (bright_yes hk _).mono ?_
  rintro e w5 ⟨rfl, hb⟩
  have b5 : Below V2.heap.size V2 w5 := hb
  replace Po := Po.below b5
  replace Pa := Pa.below b5
  replace Ip := Ip.below b5
  replace Iq := Iq.below b5
  replace Ir := Ir.below b5
  replace Is := Is.below b5
  replace Qx := Qx.below b5
  replace B := below_of B b5 B.size
  have sw5 := b5.size
  obtain ⟨po, qo, ro, fo, go⟩ := id Po
  obtain ⟨pa, qa, ra, fa, ga⟩ := id Pa
  go_wp2
  exact bodyPost_ret (v := .tuple #[.agg #[.int .i64 x, .int .i64 y], .int .i64 0]) (by simp [results, Try.results36, go_sem, po, qo]) rfl ⟨rfl, (B.setCell (by omega) _).setCell (by omega) _⟩

set_option maxRecDepth 100000 in
set_option maxHeartbeats 1000000 in
theorem bfrac_no (gx : Nat) (x y : Int) (w : World) (Qx : RatAt w gx x y) (p1 : 0 < y) (hx : x.natAbs < 9223372036854775808) (hy : y.natAbs < 9223372036854775808) (hk : ¬ FOk x y) :
    Calls Try.prog 36 #[.pointer (some ⟨gx, 0, none⟩)] w fun e w' => e = .returned (.tuple #[.agg #[.int .i64 0, .int .i64 0], .int .i64 4]) ∧ Below w.heap.size w w' := by
  have B := Below.refl w.heap.size w
  have hs0 := B.size
  have lx := Qx.room.lt
  obtain ⟨V1, hV1⟩ : ∃ V, w.alloc (.cells #[.int .i64 (0), .int .i64 (0)] 50) = V := ⟨_, rfl⟩
  have AV1 : Below w.heap.size w V1 := hV1 ▸ (Below.refl _ _).alloc (Nat.le_refl _) _
  have zV1 : w.heap.size + 1 = V1.heap.size := by rw [← hV1]; simp
  replace Qx := Qx.below AV1
  have Po : FAt V1 w.heap.size (0) (0) := hV1 ▸ FAt.new w _ _
  replace B := below_of B AV1 B.size
  have sV1 := B.size
  go_enter Try.func36, Try.ntmps36
  obtain ⟨po, qo, ro, fo, go⟩ := id Po
  go_wp2_with fail
  try rw [hV1]
  with_reducible refine (num_any gx x y _ Qx).mono ?_
  rintro e w1 ⟨gp, hgp, rfl, hb, Ip⟩
  have b1 : Below V1.heap.size V1 w1 := hb
  replace Po := Po.below b1
  replace Qx := Qx.below b1
  replace B := below_of B b1 B.size
  have sw1 := b1.size
  have lp := Ip.room.lt
  obtain ⟨po, qo, ro, fo, go⟩ := id Po
  go_wp2_with fail
  with_reducible refine (isInt64_yes _ _ _ Ip hx).mono ?_
  rintro e wq ⟨rfl, hq⟩
  subst hq
  obtain ⟨po, qo, ro, fo, go⟩ := id Po
  go_wp2_with fail
  with_reducible refine (denom_any gx x y _ Qx p1).mono ?_
  rintro e w2 ⟨gq, hgq, rfl, hb, Iq⟩
  have b2 : Below w1.heap.size w1 w2 := hb
  replace Po := Po.below b2
  replace Ip := Ip.below b2
  replace Qx := Qx.below b2
  replace B := below_of B b2 B.size
  have sw2 := b2.size
  have lq := Iq.room.lt
  obtain ⟨po, qo, ro, fo, go⟩ := id Po
  go_wp2_with fail
  with_reducible refine (isInt64_yes _ _ _ Iq hy).mono ?_
  rintro e wq ⟨rfl, hq⟩
  subst hq
  obtain ⟨po, qo, ro, fo, go⟩ := id Po
  go_wp2_with fail
  with_reducible refine (num_any gx x y _ Qx).mono ?_
  rintro e w3 ⟨gr, hgr, rfl, hb, Ir⟩
  have b3 : Below w2.heap.size w2 w3 := hb
  replace Po := Po.below b3
  replace Ip := Ip.below b3
  replace Iq := Iq.below b3
  replace Qx := Qx.below b3
  replace B := below_of B b3 B.size
  have sw3 := b3.size
  have lr := Ir.room.lt
  obtain ⟨po, qo, ro, fo, go⟩ := id Po
  go_wp2_with fail
  with_reducible refine (int64_any _ _ _ Ir hx).mono ?_
  rintro e wq ⟨rfl, hq⟩
  subst hq
  obtain ⟨po, qo, ro, fo, go⟩ := id Po
  go_wp2_with fail
  with_reducible refine (denom_any gx x y _ Qx p1).mono ?_
  rintro e w4 ⟨gs, hgs, rfl, hb, Is⟩
  have b4 : Below w3.heap.size w3 w4 := hb
  replace Po := Po.below b4
  replace Ip := Ip.below b4
  replace Iq := Iq.below b4
  replace Ir := Ir.below b4
  replace Qx := Qx.below b4
  replace B := below_of B b4 B.size
  have sw4 := b4.size
  have ls := Is.room.lt
  obtain ⟨po, qo, ro, fo, go⟩ := id Po
  go_wp2_with fail
  with_reducible refine (int64_any _ _ _ Is hy).mono ?_
  rintro e wq ⟨rfl, hq⟩
  subst hq
  obtain ⟨V2, hV2⟩ : ∃ V, w4.alloc (.cells #[.int .i64 (x), .int .i64 (y)] 50) = V := ⟨_, rfl⟩
  have AV2 : Below w4.heap.size w4 V2 := hV2 ▸ (Below.refl _ _).alloc (Nat.le_refl _) _
  have zV2 : w4.heap.size + 1 = V2.heap.size := by rw [← hV2]; simp
  replace Po := Po.below AV2
  replace Ip := Ip.below AV2
  replace Iq := Iq.below AV2
  replace Ir := Ir.below AV2
  replace Is := Is.below AV2
  replace Qx := Qx.below AV2
  have Pa : FAt V2 w4.heap.size (x) (y) := hV2 ▸ FAt.new w4 _ _
  replace B := below_of B AV2 B.size
  have sV2 := B.size
  obtain ⟨po, qo, ro, fo, go⟩ := id Po
  obtain ⟨pa, qa, ra, fa, ga⟩ := id Pa
  go_wp2_with fail
  try rw [hV2]
  with_reducible refine (bright_no hk _).mono ?_
  rintro e w5 ⟨rfl, hb⟩
  have b5 : Below V2.heap.size V2 w5 := hb
  replace Po := Po.below b5
  replace Pa := Pa.below b5
  replace Ip := Ip.below b5
  replace Iq := Iq.below b5
  replace Ir := Ir.below b5
  replace Is := Is.below b5
  replace Qx := Qx.below b5
  replace B := below_of B b5 B.size
  have sw5 := b5.size
  obtain ⟨po, qo, ro, fo, go⟩ := id Po
  obtain ⟨pa, qa, ra, fa, ga⟩ := id Pa
  go_wp2
  exact bodyPost_ret (v := .tuple #[.agg #[.int .i64 0, .int .i64 0], .int .i64 4]) (by simp [results, Try.results36, go_sem, po, qo]) rfl ⟨rfl, (B.setCell (by omega) _).setCell (by omega) _⟩

end Go.Proofs.Ytfopcipapphogaa
