/- FracAdds of package weirhouselaw: its walk, where both operands are valid. -/
import Derived.Test.YtfopcipapphogaaFAdds1
import Derived.Test.YtfopcipapphogaaFr3
namespace Go.Proofs.Ytfopcipapphogaa
open Go.RowKit

set_option maxRecDepth 100000 in
set_option maxHeartbeats 4000000 in
theorem fadds_yes (an ad bn bd : Int) (c sn sd e1 pn pd e2 x1 y1 x2 y2 X Y U V : Int) (h1 : FOk an ad) (h2 : FOk bn bd)
    (c1 : ∀ w, Calls Try.prog 30 #[.agg #[.int .i64 an, .int .i64 ad], .agg #[.int .i64 bn, .int .i64 bd]] w fun e w' => e = .returned (.tuple #[.int .i64 c, .int .i64 0]) ∧ Below w.heap.size w w')
    (c2 : ∀ w, Calls Try.prog 31 #[.agg #[.int .i64 an, .int .i64 ad], .agg #[.int .i64 bn, .int .i64 bd]] w fun e w' => e = .returned (.tuple #[.agg #[.int .i64 sn, .int .i64 sd], .int .i64 e1]) ∧ Below w.heap.size w w')
    (c3 : ∀ w, Calls Try.prog 32 #[.agg #[.int .i64 an, .int .i64 ad], .agg #[.int .i64 bn, .int .i64 bd]] w fun e w' => e = .returned (.tuple #[.agg #[.int .i64 pn, .int .i64 pd], .int .i64 e2]) ∧ Below w.heap.size w w')
    (d1 : ∀ w, Calls Try.prog 35 #[.agg #[.int .i64 an, .int .i64 ad]] w (NewRat w x1 y1)) (d2 : ∀ w, Calls Try.prog 35 #[.agg #[.int .i64 bn, .int .i64 bd]] w (NewRat w x2 y2))
    (d3 : ∀ gz gx gy w, RatRoom w gz → RatAt w gx x1 y1 → RatAt w gy x2 y2 → Calls Try.prog 37 #[.pointer (some ⟨gz, 0, none⟩), .pointer (some ⟨gx, 0, none⟩), .pointer (some ⟨gy, 0, none⟩)] w fun e w' => e = .returned (.pointer (some ⟨gz, 0, none⟩)) ∧ w.grownBy w' (some gz) ∧ RatAt w' gz X Y)
    (d4 : ∀ g w, RatAt w g X Y → Calls Try.prog 36 #[.pointer (some ⟨g, 0, none⟩)] w fun e w' => e = .returned (.tuple #[.agg #[.int .i64 sn, .int .i64 sd], .int .i64 e1]) ∧ Below w.heap.size w w')
    (d5 : ∀ gz gx gy w, RatRoom w gz → RatAt w gx x1 y1 → RatAt w gy x2 y2 → Calls Try.prog 38 #[.pointer (some ⟨gz, 0, none⟩), .pointer (some ⟨gx, 0, none⟩), .pointer (some ⟨gy, 0, none⟩)] w fun e w' => e = .returned (.pointer (some ⟨gz, 0, none⟩)) ∧ w.grownBy w' (some gz) ∧ RatAt w' gz U V)
    (d6 : ∀ g w, RatAt w g U V → Calls Try.prog 36 #[.pointer (some ⟨g, 0, none⟩)] w fun e w' => e = .returned (.tuple #[.agg #[.int .i64 pn, .int .i64 pd], .int .i64 e2]) ∧ Below w.heap.size w w')
    (d7 : ∀ gx gy w, RatAt w gx x1 y1 → RatAt w gy x2 y2 → Calls Try.prog 39 #[.pointer (some ⟨gx, 0, none⟩), .pointer (some ⟨gy, 0, none⟩)] w fun e w' => e = .returned (.int .i64 c) ∧ Below w.heap.size w w') (w : World) :
    Calls Try.prog 5 #[.agg #[.int .i64 an, .int .i64 ad], .agg #[.int .i64 bn, .int .i64 bd]] w fun e w' => e = .returned (.bool true) ∧ Below w.heap.size w w' := by
  have B := Below.refl w.heap.size w
  have hs0 := B.size
  obtain ⟨V1, hV1⟩ : ∃ V, w.alloc (.cells #[.int .i64 (an), .int .i64 (ad)] 50) = V := ⟨_, rfl⟩
  have AV1 : Below w.heap.size w V1 := hV1 ▸ (Below.refl _ _).alloc (Nat.le_refl _) _
  have zV1 : w.heap.size + 1 = V1.heap.size := by rw [← hV1]; simp
  have Pa : FAt V1 w.heap.size (an) (ad) := hV1 ▸ FAt.new w _ _
  replace B := below_of B AV1 B.size
  have sV1 := B.size
  obtain ⟨V2, hV2⟩ : ∃ V, V1.alloc (.cells #[.int .i64 (bn), .int .i64 (bd)] 50) = V := ⟨_, rfl⟩
  have AV2 : Below V1.heap.size V1 V2 := hV2 ▸ (Below.refl _ _).alloc (Nat.le_refl _) _
  have zV2 : V1.heap.size + 1 = V2.heap.size := by rw [← hV2]; simp
  replace Pa := Pa.below AV2
  have Pb : FAt V2 V1.heap.size (bn) (bd) := hV2 ▸ FAt.new V1 _ _
  replace B := below_of B AV2 B.size
  have sV2 := B.size
  go_enter Try.func5, Try.ntmps5
  obtain ⟨pa, qa, ra, fa, ga⟩ := id Pa
  obtain ⟨pb, qb, rb, fb, gb⟩ := id Pb
  go_wp2_with fail
  try rw [hV1]
  try rw [hV2]
  with_reducible refine (c1 _).mono ?_
  rintro e w1 ⟨rfl, hb⟩
  have b1 : Below V2.heap.size V2 w1 := hb
  replace Pa := Pa.below b1
  replace Pb := Pb.below b1
  replace B := below_of B b1 B.size
  have sw1 := b1.size
  obtain ⟨pa, qa, ra, fa, ga⟩ := id Pa
  obtain ⟨pb, qb, rb, fb, gb⟩ := id Pb
  go_wp2_with fail
  with_reducible refine (c2 _).mono ?_
  rintro e w2 ⟨rfl, hb⟩
  have b2 : Below w1.heap.size w1 w2 := hb
  replace Pa := Pa.below b2
  replace Pb := Pb.below b2
  replace B := below_of B b2 B.size
  have sw2 := b2.size
  obtain ⟨V3, hV3⟩ : ∃ V, w2.alloc (.cells #[.int .i64 (sn), .int .i64 (sd)] 50) = V := ⟨_, rfl⟩
  have AV3 : Below w2.heap.size w2 V3 := hV3 ▸ (Below.refl _ _).alloc (Nat.le_refl _) _
  have zV3 : w2.heap.size + 1 = V3.heap.size := by rw [← hV3]; simp
  replace Pa := Pa.below AV3
  replace Pb := Pb.below AV3
  have Ps : FAt V3 w2.heap.size (sn) (sd) := hV3 ▸ FAt.new w2 _ _
  replace B := below_of B AV3 B.size
  have sV3 := B.size
  obtain ⟨pa, qa, ra, fa, ga⟩ := id Pa
  obtain ⟨pb, qb, rb, fb, gb⟩ := id Pb
  obtain ⟨ps, qs, rs, fs, gs⟩ := id Ps
  go_wp2_with fail
  try rw [hV3]
  with_reducible refine (c3 _).mono ?_
  rintro e w3 ⟨rfl, hb⟩
  have b3 : Below V3.heap.size V3 w3 := hb
  replace Pa := Pa.below b3
  replace Pb := Pb.below b3
  replace Ps := Ps.below b3
  replace B := below_of B b3 B.size
  have sw3 := b3.size
  obtain ⟨V4, hV4⟩ : ∃ V, w3.alloc (.cells #[.int .i64 (pn), .int .i64 (pd)] 50) = V := ⟨_, rfl⟩
  have AV4 : Below w3.heap.size w3 V4 := hV4 ▸ (Below.refl _ _).alloc (Nat.le_refl _) _
  have zV4 : w3.heap.size + 1 = V4.heap.size := by rw [← hV4]; simp
  replace Pa := Pa.below AV4
  replace Pb := Pb.below AV4
  replace Ps := Ps.below AV4
  have Pp : FAt V4 w3.heap.size (pn) (pd) := hV4 ▸ FAt.new w3 _ _
  replace B := below_of B AV4 B.size
  have sV4 := B.size
  obtain ⟨pa, qa, ra, fa, ga⟩ := id Pa
  obtain ⟨pb, qb, rb, fb, gb⟩ := id Pb
  obtain ⟨ps, qs, rs, fs, gs⟩ := id Ps
  obtain ⟨pp, qp, rp, fp, gp⟩ := id Pp
  go_wp2_with fail
  try rw [hV4]
  obtain ⟨U4, hU4⟩ : ∃ V, V4.drew = V := ⟨_, rfl⟩
  have DU4 : Below V4.heap.size V4 U4 := hU4 ▸ below_drewN (Below.refl _ _) 1
  replace Pa := Pa.below DU4
  replace Pb := Pb.below DU4
  replace Ps := Ps.below DU4
  replace Pp := Pp.below DU4
  replace B := below_of B DU4 B.size
  refine wp_region_held_drew (S := (fun w' => w'.cell? ⟨w.heap.size, 0, none⟩ = some (.int .i64 an) ∧ w'.cell? ⟨w.heap.size, 1, none⟩ = some (.int .i64 ad))) (by kernel_rfl) (hU4 ▸ ⟨Pa.1, Pa.2.1⟩) (fun hHeld => ?_)
  rw [hU4] at hHeld ⊢
  refine wpAnyH_take (i := 0) (v := ?_) (by simp only [List.getElem?_toArray, List.getElem?_cons_zero] <;> rfl) (by kernel_rfl) (by kernel_rfl) (by kernel_rfl) (by exact fun _ _ _ h => h) (Or.inl ⟨by rfl, ?_⟩) hHeld ?_
  rotate_left
  · intro w hSw; (try dsimp only at hSw); go_simp; (try with_reducible rfl)
  (try simp only [Act.put, List.setIfInBounds_toArray, List.set_cons_zero, List.set_cons_succ])
  refine wpAnyH_take (i := 2) (v := ?_) (by simp only [List.getElem?_toArray, List.getElem?_cons_succ, List.getElem?_cons_zero] <;> rfl) (by kernel_rfl) (by kernel_rfl) (by kernel_rfl) (by exact fun _ _ _ h => h) (Or.inl ⟨by rfl, ?_⟩) hHeld ?_
  rotate_left
  · intro w hSw; (try dsimp only at hSw); go_simp; (try with_reducible rfl)
  (try simp only [Act.put, List.setIfInBounds_toArray, List.set_cons_zero, List.set_cons_succ])
  refine wpAnyH_ready (rs := [1]) (by kernel_rfl) (by simp) ?_
  refine AllReadyH.cons (by simp only [List.getElem?_toArray, List.getElem?_cons_succ, List.getElem?_cons_zero] <;> rfl) (fun K hK => ?_) AllReadyH.nil
  go_simp
  with_reducible refine (right_yes h1 _).mono ?_
  rintro e w4 ⟨rfl, hb⟩
  have b4 : Below U4.heap.size U4 w4 := hb
  replace Pa := Pa.below b4
  replace Pb := Pb.below b4
  replace Ps := Ps.below b4
  replace Pp := Pp.below b4
  replace B := below_of B b4 B.size
  have sw4 := b4.size
  go_wp2_with fail
  refine hK.out _ _ ?_ (fun hHeld => ?_)
  · (try dsimp only); exact ⟨Pa.1, Pa.2.1⟩
  clear hK K
  (try simp only [Act.put, List.setIfInBounds_toArray, List.set_cons_zero, List.set_cons_succ])
  refine wpAnyH_ready (rs := [3]) (by kernel_rfl) (by simp) ?_
  refine AllReadyH.cons (by simp only [List.getElem?_toArray, List.getElem?_cons_succ, List.getElem?_cons_zero] <;> rfl) (fun K hK => ?_) AllReadyH.nil
  go_simp
  with_reducible refine (bright_yes h1 _).mono ?_
  rintro e w5 ⟨rfl, hb⟩
  have b5 : Below w4.heap.size w4 w5 := hb
  replace Pa := Pa.below b5
  replace Pb := Pb.below b5
  replace Ps := Ps.below b5
  replace Pp := Pp.below b5
  replace B := below_of B b5 B.size
  have sw5 := b5.size
  go_wp2_with fail
  refine hK.out _ _ ?_ (fun hHeld => ?_)
  · (try dsimp only); exact ⟨Pa.1, Pa.2.1⟩
  clear hK K
  (try simp only [Act.put, List.setIfInBounds_toArray, List.set_cons_zero, List.set_cons_succ])
  refine wpAnyH_take (i := 4) (v := ?_) (by simp only [List.getElem?_toArray, List.getElem?_cons_succ, List.getElem?_cons_zero] <;> rfl) (by kernel_rfl) (by kernel_rfl) (by kernel_rfl) (by exact fun _ _ _ h => h) (Or.inl ⟨by rfl, ?_⟩) hHeld ?_
  rotate_left
  · intro w hSw; (try dsimp only at hSw); go_simp; (try with_reducible rfl)
  (try simp only [Act.put, List.setIfInBounds_toArray, List.set_cons_zero, List.set_cons_succ])
  refine wpAnyH_done (by kernel_rfl) ?_ _
  obtain ⟨pa, qa, ra, fa, ga⟩ := id Pa
  obtain ⟨pb, qb, rb, fb, gb⟩ := id Pb
  obtain ⟨ps, qs, rs, fs, gs⟩ := id Ps
  obtain ⟨pp, qp, rp, fp, gp⟩ := id Pp
  go_wp2_with fail
  with_reducible refine (bright_yes h1 _).mono ?_
  rintro e w6 ⟨rfl, hb⟩
  have b6 : Below w5.heap.size w5 w6 := hb
  replace Pa := Pa.below b6
  replace Pb := Pb.below b6
  replace Ps := Ps.below b6
  replace Pp := Pp.below b6
  replace B := below_of B b6 B.size
  have sw6 := b6.size
  obtain ⟨pa, qa, ra, fa, ga⟩ := id Pa
  obtain ⟨pb, qb, rb, fb, gb⟩ := id Pb
  obtain ⟨ps, qs, rs, fs, gs⟩ := id Ps
  obtain ⟨pp, qp, rp, fp, gp⟩ := id Pp
  go_wp2_with fail
  with_reducible refine (bright_yes h2 _).mono ?_
  rintro e w7 ⟨rfl, hb⟩
  have b7 : Below w6.heap.size w6 w7 := hb
  replace Pa := Pa.below b7
  replace Pb := Pb.below b7
  replace Ps := Ps.below b7
  replace Pp := Pp.below b7
  replace B := below_of B b7 B.size
  have sw7 := b7.size
  obtain ⟨pa, qa, ra, fa, ga⟩ := id Pa
  obtain ⟨pb, qb, rb, fb, gb⟩ := id Pb
  obtain ⟨ps, qs, rs, fs, gs⟩ := id Ps
  obtain ⟨pp, qp, rp, fp, gp⟩ := id Pp
  go_wp2_with fail
  obtain ⟨U8, hU8⟩ : ∃ V, w7.drew = V := ⟨_, rfl⟩
  have DU8 : Below w7.heap.size w7 U8 := hU8 ▸ below_drewN (Below.refl _ _) 1
  replace Pa := Pa.below DU8
  replace Pb := Pb.below DU8
  replace Ps := Ps.below DU8
  replace Pp := Pp.below DU8
  replace B := below_of B DU8 B.size
  refine wp_region_held_drew (S := (fun w' => w'.cell? ⟨w.heap.size, 0, none⟩ = some (.int .i64 an) ∧ w'.cell? ⟨w.heap.size, 1, none⟩ = some (.int .i64 ad) ∧ w'.cell? ⟨V1.heap.size, 0, none⟩ = some (.int .i64 bn) ∧ w'.cell? ⟨V1.heap.size, 1, none⟩ = some (.int .i64 bd))) (by kernel_rfl) (hU8 ▸ ⟨Pa.1, Pa.2.1, Pb.1, Pb.2.1⟩) (fun hHeld => ?_)
  rw [hU8] at hHeld ⊢
  refine wpAnyH_take (i := 0) (v := ?_) (by simp only [List.getElem?_toArray, List.getElem?_cons_zero] <;> rfl) (by kernel_rfl) (by kernel_rfl) (by kernel_rfl) (by exact fun _ _ _ h => h) (Or.inl ⟨by rfl, ?_⟩) hHeld ?_
  rotate_left
  · intro w hSw; (try dsimp only at hSw); go_simp; (try with_reducible rfl)
  (try simp only [Act.put, List.setIfInBounds_toArray, List.set_cons_zero, List.set_cons_succ])
  refine wpAnyH_take (i := 2) (v := ?_) (by simp only [List.getElem?_toArray, List.getElem?_cons_succ, List.getElem?_cons_zero] <;> rfl) (by kernel_rfl) (by kernel_rfl) (by kernel_rfl) (by exact fun _ _ _ h => h) (Or.inl ⟨by rfl, ?_⟩) hHeld ?_
  rotate_left
  · intro w hSw; (try dsimp only at hSw); go_simp; (try with_reducible rfl)
  (try simp only [Act.put, List.setIfInBounds_toArray, List.set_cons_zero, List.set_cons_succ])
  refine wpAnyH_ready (rs := [1]) (by kernel_rfl) (by simp) ?_
  refine AllReadyH.cons (by simp only [List.getElem?_toArray, List.getElem?_cons_succ, List.getElem?_cons_zero] <;> rfl) (fun K hK => ?_) AllReadyH.nil
  go_simp
  with_reducible refine (d1 _).mono ?_
  rintro e w8 ⟨gx, hgx, rfl, hb, Qx⟩
  have b8 : Below U8.heap.size U8 w8 := hb
  replace Pa := Pa.below b8
  replace Pb := Pb.below b8
  replace Ps := Ps.below b8
  replace Pp := Pp.below b8
  replace B := below_of B b8 B.size
  have sw8 := b8.size
  have lx := Qx.room.lt
  go_wp2_with fail
  refine hK.out _ _ ?_ (fun hHeld => ?_)
  · (try dsimp only); exact ⟨Pa.1, Pa.2.1, Pb.1, Pb.2.1⟩
  clear hK K
  (try simp only [Act.put, List.setIfInBounds_toArray, List.set_cons_zero, List.set_cons_succ])
  refine wpAnyH_ready (rs := [3]) (by kernel_rfl) (by simp) ?_
  refine AllReadyH.cons (by simp only [List.getElem?_toArray, List.getElem?_cons_succ, List.getElem?_cons_zero] <;> rfl) (fun K hK => ?_) AllReadyH.nil
  go_simp
  with_reducible refine (d2 _).mono ?_
  rintro e w9 ⟨gy, hgy, rfl, hb, Qy⟩
  have b9 : Below w8.heap.size w8 w9 := hb
  replace Pa := Pa.below b9
  replace Pb := Pb.below b9
  replace Ps := Ps.below b9
  replace Pp := Pp.below b9
  replace Qx := Qx.below b9
  replace B := below_of B b9 B.size
  have sw9 := b9.size
  have ly := Qy.room.lt
  go_wp2_with fail
  refine hK.out _ _ ?_ (fun hHeld => ?_)
  · (try dsimp only); exact ⟨Pa.1, Pa.2.1, Pb.1, Pb.2.1⟩
  clear hK K
  (try simp only [Act.put, List.setIfInBounds_toArray, List.set_cons_zero, List.set_cons_succ])
  refine wpAnyH_take (i := 4) (v := ?_) (by simp only [List.getElem?_toArray, List.getElem?_cons_succ, List.getElem?_cons_zero] <;> rfl) (by kernel_rfl) (by kernel_rfl) (by kernel_rfl) (by exact fun _ _ _ h => h) (Or.inl ⟨by rfl, ?_⟩) hHeld ?_
  rotate_left
  · intro w hSw; (try dsimp only at hSw); go_simp; (try with_reducible rfl)
  (try simp only [Act.put, List.setIfInBounds_toArray, List.set_cons_zero, List.set_cons_succ])
  refine wpAnyH_take (i := 5) (v := ?_) (by simp only [List.getElem?_toArray, List.getElem?_cons_succ, List.getElem?_cons_zero] <;> rfl) (by kernel_rfl) (by kernel_rfl) (by kernel_rfl) (by exact fun _ _ _ h => h) (Or.inl ⟨by rfl, ?_⟩) hHeld ?_
  rotate_left
  · intro w hSw; (try dsimp only at hSw); go_simp; (try with_reducible rfl)
  (try simp only [Act.put, List.setIfInBounds_toArray, List.set_cons_zero, List.set_cons_succ])
  refine wpAnyH_done (by kernel_rfl) ?_ _
  have S1Pa := Pa
  have S1Pb := Pb
  have S1Ps := Ps
  have S1Pp := Pp
  have S1Qx := Qx
  have S1Qy := Qy
  have S1B := B
  obtain ⟨V5, hV5⟩ : ∃ V, w9.alloc (.cells #[.bool false, .slice none 0 0, .bool false, .slice none 0 0] 60) = V := ⟨_, rfl⟩
  have AV5 : Below w9.heap.size w9 V5 := hV5 ▸ (Below.refl _ _).alloc (Nat.le_refl _) _
  have zV5 : w9.heap.size + 1 = V5.heap.size := by rw [← hV5]; simp
  replace Pa := Pa.below AV5
  replace Pb := Pb.below AV5
  replace Ps := Ps.below AV5
  replace Pp := Pp.below AV5
  replace Qx := Qx.below AV5
  replace Qy := Qy.below AV5
  have Rrt : RatRoom V5 w9.heap.size := hV5 ▸ rat_new w9
  replace B := below_of B AV5 B.size
  obtain ⟨pa, qa, ra, fa, ga⟩ := id Pa
  obtain ⟨pb, qb, rb, fb, gb⟩ := id Pb
  obtain ⟨ps, qs, rs, fs, gs⟩ := id Ps
  obtain ⟨pp, qp, rp, fp, gp⟩ := id Pp
  go_wp2_with fail
  have GB : Below w9.heap.size w9 V5 := (below_of (Below.refl w9.heap.size w9) AV5 (by omega))
  with_reducible refine (d3 w9.heap.size gx gy _ Rrt Qx Qy).mono ?_
  rintro e w10x ⟨rfl, gr, Qz⟩
  have K1 : Below w9.heap.size w9 w10x := GB.grown gr GB.size (fun k hk => by injection hk with hk; omega)
  replace Pa := S1Pa.below K1
  replace Pb := S1Pb.below K1
  replace Ps := S1Ps.below K1
  replace Pp := S1Pp.below K1
  replace Qx := S1Qx.below K1
  replace Qy := S1Qy.below K1
  replace B := below_of S1B K1 S1B.size
  have sK1 := K1.size
  clear gr GB
  obtain ⟨pa, qa, ra, fa, ga⟩ := id Pa
  obtain ⟨pb, qb, rb, fb, gb⟩ := id Pb
  obtain ⟨ps, qs, rs, fs, gs⟩ := id Ps
  obtain ⟨pp, qp, rp, fp, gp⟩ := id Pp
  go_wp2_with fail
  with_reducible refine (d4 _ _ Qz).mono ?_
  rintro e w11 ⟨rfl, hb⟩
  have b11 : Below w10x.heap.size w10x w11 := hb
  replace Pa := Pa.below b11
  replace Pb := Pb.below b11
  replace Ps := Ps.below b11
  replace Pp := Pp.below b11
  replace Qx := Qx.below b11
  replace Qy := Qy.below b11
  replace B := below_of B b11 B.size
  have sw11 := b11.size
  obtain ⟨V6, hV6⟩ : ∃ V, w11.alloc (.cells #[.int .i64 (sn), .int .i64 (sd)] 50) = V := ⟨_, rfl⟩
  have AV6 : Below w11.heap.size w11 V6 := hV6 ▸ (Below.refl _ _).alloc (Nat.le_refl _) _
  have zV6 : w11.heap.size + 1 = V6.heap.size := by rw [← hV6]; simp
  replace Pa := Pa.below AV6
  replace Pb := Pb.below AV6
  replace Ps := Ps.below AV6
  replace Pp := Pp.below AV6
  replace Qx := Qx.below AV6
  replace Qy := Qy.below AV6
  have Pt : FAt V6 w11.heap.size (sn) (sd) := hV6 ▸ FAt.new w11 _ _
  replace B := below_of B AV6 B.size
  have sV6 := B.size
  have S2Pa := Pa
  have S2Pb := Pb
  have S2Ps := Ps
  have S2Pp := Pp
  have S2Pt := Pt
  have S2Qx := Qx
  have S2Qy := Qy
  have S2B := B
  obtain ⟨V7, hV7⟩ : ∃ V, V6.alloc (.cells #[.bool false, .slice none 0 0, .bool false, .slice none 0 0] 60) = V := ⟨_, rfl⟩
  have AV7 : Below V6.heap.size V6 V7 := hV7 ▸ (Below.refl _ _).alloc (Nat.le_refl _) _
  have zV7 : V6.heap.size + 1 = V7.heap.size := by rw [← hV7]; simp
  replace Pa := Pa.below AV7
  replace Pb := Pb.below AV7
  replace Ps := Ps.below AV7
  replace Pp := Pp.below AV7
  replace Pt := Pt.below AV7
  replace Qx := Qx.below AV7
  replace Qy := Qy.below AV7
  have Rru : RatRoom V7 V6.heap.size := hV7 ▸ rat_new V6
  replace B := below_of B AV7 B.size
  obtain ⟨pa, qa, ra, fa, ga⟩ := id Pa
  obtain ⟨pb, qb, rb, fb, gb⟩ := id Pb
  obtain ⟨ps, qs, rs, fs, gs⟩ := id Ps
  obtain ⟨pp, qp, rp, fp, gp⟩ := id Pp
  obtain ⟨pt, qt, rt, ft, gt⟩ := id Pt
  go_wp2_with fail
  try rw [hV6]
  have GB : Below V6.heap.size V6 V7 := (below_of (Below.refl V6.heap.size V6) AV7 (by omega))
  with_reducible refine (d5 V6.heap.size gx gy _ Rru Qx Qy).mono ?_
  rintro e w12x ⟨rfl, gr, Qz⟩
  have K2 : Below V6.heap.size V6 w12x := GB.grown gr GB.size (fun k hk => by injection hk with hk; omega)
  replace Pa := S2Pa.below K2
  replace Pb := S2Pb.below K2
  replace Ps := S2Ps.below K2
  replace Pp := S2Pp.below K2
  replace Pt := S2Pt.below K2
  replace Qx := S2Qx.below K2
  replace Qy := S2Qy.below K2
  replace B := below_of S2B K2 S2B.size
  have sK2 := K2.size
  clear gr GB
  obtain ⟨pa, qa, ra, fa, ga⟩ := id Pa
  obtain ⟨pb, qb, rb, fb, gb⟩ := id Pb
  obtain ⟨ps, qs, rs, fs, gs⟩ := id Ps
  obtain ⟨pp, qp, rp, fp, gp⟩ := id Pp
  obtain ⟨pt, qt, rt, ft, gt⟩ := id Pt
  go_wp2_with fail
  with_reducible refine (d6 _ _ Qz).mono ?_
  rintro e w13 ⟨rfl, hb⟩
  have b13 : Below w12x.heap.size w12x w13 := hb
  replace Pa := Pa.below b13
  replace Pb := Pb.below b13
  replace Ps := Ps.below b13
  replace Pp := Pp.below b13
  replace Pt := Pt.below b13
  replace Qx := Qx.below b13
  replace Qy := Qy.below b13
  replace B := below_of B b13 B.size
  have sw13 := b13.size
  obtain ⟨V8, hV8⟩ : ∃ V, w13.alloc (.cells #[.int .i64 (pn), .int .i64 (pd)] 50) = V := ⟨_, rfl⟩
  have AV8 : Below w13.heap.size w13 V8 := hV8 ▸ (Below.refl _ _).alloc (Nat.le_refl _) _
  have zV8 : w13.heap.size + 1 = V8.heap.size := by rw [← hV8]; simp
  replace Pa := Pa.below AV8
  replace Pb := Pb.below AV8
  replace Ps := Ps.below AV8
  replace Pp := Pp.below AV8
  replace Pt := Pt.below AV8
  replace Qx := Qx.below AV8
  replace Qy := Qy.below AV8
  have Pu : FAt V8 w13.heap.size (pn) (pd) := hV8 ▸ FAt.new w13 _ _
  replace B := below_of B AV8 B.size
  have sV8 := B.size
  obtain ⟨pa, qa, ra, fa, ga⟩ := id Pa
  obtain ⟨pb, qb, rb, fb, gb⟩ := id Pb
  obtain ⟨ps, qs, rs, fs, gs⟩ := id Ps
  obtain ⟨pp, qp, rp, fp, gp⟩ := id Pp
  obtain ⟨pt, qt, rt, ft, gt⟩ := id Pt
  obtain ⟨pu, qu, ru, fu, gu⟩ := id Pu
  go_wp2_with fail
  try rw [hV8]
  with_reducible refine (d7 _ _ _ Qx Qy).mono ?_
  rintro e w14 ⟨rfl, hb⟩
  have b14 : Below V8.heap.size V8 w14 := hb
  replace Pa := Pa.below b14
  replace Pb := Pb.below b14
  replace Ps := Ps.below b14
  replace Pp := Pp.below b14
  replace Pt := Pt.below b14
  replace Pu := Pu.below b14
  replace Qx := Qx.below b14
  replace Qy := Qy.below b14
  replace B := below_of B b14 B.size
  have sw14 := b14.size
  obtain ⟨pa, qa, ra, fa, ga⟩ := id Pa
  obtain ⟨pb, qb, rb, fb, gb⟩ := id Pb
  obtain ⟨ps, qs, rs, fs, gs⟩ := id Ps
  obtain ⟨pp, qp, rp, fp, gp⟩ := id Pp
  obtain ⟨pt, qt, rt, ft, gt⟩ := id Pt
  obtain ⟨pu, qu, ru, fu, gu⟩ := id Pu
  go_wp2_with fail
  go_ret
  exact ⟨by simp, B⟩

end Go.Proofs.Ytfopcipapphogaa
