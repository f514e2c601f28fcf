/- FracAdds of package weirhouselaw: its walk, where an operand is not valid. -/
import Derived.Test.YtfopcipapphogaaRat7
import Derived.Test.YtfopcipapphogaaRat5
import Derived.Test.YtfopcipapphogaaFr3
namespace Go.Proofs.Ytfopcipapphogaa
open Go.RowKit

set_option maxRecDepth 100000 in
set_option maxHeartbeats 4000000 in
theorem fadds_no1 (an ad bn bd : Int) (h1 : ¬ FOk an ad) (w : World) :
    Calls Try.prog 5 #[.agg #[.int .i64 an, .int .i64 ad], .agg #[.int .i64 bn, .int .i64 bd]] w fun e w' => e = .returned (.bool true) ∧ Below w.heap.size w w' := by
  have B := Below.refl w.heap.size w
  have hs0 := B.size
  obtain ⟨V1, hV1⟩ : ∃ V, w.alloc (.cells #[.int .i64 (an), .int .i64 (ad)] 50) = V := ⟨_, rfl⟩
  have AV1 : Below w.heap.size w V1 := hV1 ▸ (Below.refl _ _).alloc (Nat.le_refl _) _
  have zV1 : w.heap.size + 1 = V1.heap.size := by rw [← hV1]; simp
  have Pa : FAt V1 w.heap.size (an) (ad) := hV1 ▸ FAt.new w _ _
  replace B := below_of B AV1 B.size
  have sV1 := B.size
  obtain ⟨V2, hV2⟩ : ∃ V, V1.alloc (.cells #[.int .i64 (bn), .int .i64 (bd)] 50) = V := ⟨_, rfl⟩
  have AV2 : Below V1.heap.size V1 V2 := hV2 ▸ (Below.refl _ _).alloc (Nat.le_refl _) _
  have zV2 : V1.heap.size + 1 = V2.heap.size := by rw [← hV2]; simp
  replace Pa := Pa.below AV2
  have Pb : FAt V2 V1.heap.size (bn) (bd) := hV2 ▸ FAt.new V1 _ _
  replace B := below_of B AV2 B.size
  have sV2 := B.size
  go_enter Try.func5, Try.ntmps5
  obtain ⟨pa, qa, ra, fa, ga⟩ := id Pa
  obtain ⟨pb, qb, rb, fb, gb⟩ := id Pb
  go_wp2_with fail
  try rw [hV1]
  try rw [hV2]
  with_reducible refine (cmpF_no1 an ad bn bd h1 _).mono ?_
  rintro e w1 ⟨rfl, hb⟩
  have b1 : Below V2.heap.size V2 w1 := hb
  replace Pa := Pa.below b1
  replace Pb := Pb.below b1
  replace B := below_of B b1 B.size
  have sw1 := b1.size
  obtain ⟨pa, qa, ra, fa, ga⟩ := id Pa
  obtain ⟨pb, qb, rb, fb, gb⟩ := id Pb
  go_wp2_with fail
  with_reducible refine (addF_no1 an ad bn bd h1 _).mono ?_
  rintro e w2 ⟨rfl, hb⟩
  have b2 : Below w1.heap.size w1 w2 := hb
  replace Pa := Pa.below b2
  replace Pb := Pb.below b2
  replace B := below_of B b2 B.size
  have sw2 := b2.size
  obtain ⟨pa, qa, ra, fa, ga⟩ := id Pa
  obtain ⟨pb, qb, rb, fb, gb⟩ := id Pb
  obtain ⟨V3, hV3⟩ : ∃ V, w2.alloc (.cells #[.int .i64 (0), .int .i64 (0)] 50) = V := ⟨_, rfl⟩
  have AV3 : Below w2.heap.size w2 V3 := hV3 ▸ (Below.refl _ _).alloc (Nat.le_refl _) _
  have zV3 : w2.heap.size + 1 = V3.heap.size := by rw [← hV3]; simp
  replace Pa := Pa.below AV3
  replace Pb := Pb.below AV3
  have Ps : FAt V3 w2.heap.size (0) (0) := hV3 ▸ FAt.new w2 _ _
  replace B := below_of B AV3 B.size
  have sV3 := B.size
  have HV3 := Lib.hid hV3
  clear hV3
  obtain ⟨pa, qa, ra, fa, ga⟩ := id Pa
  obtain ⟨pb, qb, rb, fb, gb⟩ := id Pb
  obtain ⟨ps, qs, rs, fs, gs⟩ := id Ps
  go_wp2_with fail
  rw [HV3.out]
  with_reducible refine (mulF_no1 an ad bn bd h1 _).mono ?_
  rintro e w3 ⟨rfl, hb⟩
  have b3 : Below V3.heap.size V3 w3 := hb
  replace Pa := Pa.below b3
  replace Pb := Pb.below b3
  replace Ps := Ps.below b3
  replace B := below_of B b3 B.size
  have sw3 := b3.size
  obtain ⟨pa, qa, ra, fa, ga⟩ := id Pa
  obtain ⟨pb, qb, rb, fb, gb⟩ := id Pb
  obtain ⟨ps, qs, rs, fs, gs⟩ := id Ps
  obtain ⟨V4, hV4⟩ : ∃ V, w3.alloc (.cells #[.int .i64 (0), .int .i64 (0)] 50) = V := ⟨_, rfl⟩
  have AV4 : Below w3.heap.size w3 V4 := hV4 ▸ (Below.refl _ _).alloc (Nat.le_refl _) _
  have zV4 : w3.heap.size + 1 = V4.heap.size := by rw [← hV4]; simp
  replace Pa := Pa.below AV4
  replace Pb := Pb.below AV4
  replace Ps := Ps.below AV4
  have Pp : FAt V4 w3.heap.size (0) (0) := hV4 ▸ FAt.new w3 _ _
  replace B := below_of B AV4 B.size
  have sV4 := B.size
  have HV4 := Lib.hid hV4
  clear hV4
  obtain ⟨pa, qa, ra, fa, ga⟩ := id Pa
  obtain ⟨pb, qb, rb, fb, gb⟩ := id Pb
  obtain ⟨ps, qs, rs, fs, gs⟩ := id Ps
  obtain ⟨pp, qp, rp, fp, gp⟩ := id Pp
  go_wp2_with fail
  rw [HV4.out]
  obtain ⟨U4, hU4⟩ : ∃ V, V4.drew = V := ⟨_, rfl⟩
  have DU4 : Below V4.heap.size V4 U4 := hU4 ▸ below_drewN (Below.refl _ _) 1
  replace Pa := Pa.below DU4
  replace Pb := Pb.below DU4
  replace Ps := Ps.below DU4
  replace Pp := Pp.below DU4
  replace B := below_of B DU4 B.size
  refine wp_region_held_drew (S := (fun w' => w'.cell? ⟨w.heap.size, 0, none⟩ = some (.int .i64 an) ∧ w'.cell? ⟨w.heap.size, 1, none⟩ = some (.int .i64 ad))) (by kernel_rfl) (hU4 ▸ ⟨Pa.1, Pa.2.1⟩) (fun hHeld => ?_)
  rw [hU4] at hHeld ⊢
  refine wpAnyH_take (i := 0) (v := ?_) (by simp only [List.getElem?_toArray, List.getElem?_cons_zero] <;> rfl) (by kernel_rfl) (by kernel_rfl) (by kernel_rfl) (by exact fun _ _ _ h => h) (Or.inl ⟨by rfl, ?_⟩) hHeld ?_
  rotate_left
  · intro w hSw; (try dsimp only at hSw); go_simp; (try with_reducible rfl)
  (try simp only [Act.put, List.setIfInBounds_toArray, List.set_cons_zero, List.set_cons_succ])
  refine wpAnyH_take (i := 2) (v := ?_) (by simp only [List.getElem?_toArray, List.getElem?_cons_succ, List.getElem?_cons_zero] <;> rfl) (by kernel_rfl) (by kernel_rfl) (by kernel_rfl) (by exact fun _ _ _ h => h) (Or.inl ⟨by rfl, ?_⟩) hHeld ?_
  rotate_left
  · intro w hSw; (try dsimp only at hSw); go_simp; (try with_reducible rfl)
  (try simp only [Act.put, List.setIfInBounds_toArray, List.set_cons_zero, List.set_cons_succ])
  refine wpAnyH_ready (rs := [1]) (by kernel_rfl) (by simp) ?_
  refine AllReadyH.cons (by simp only [List.getElem?_toArray, List.getElem?_cons_succ, List.getElem?_cons_zero] <;> rfl) (fun K hK => ?_) AllReadyH.nil
  go_simp
  with_reducible refine (right_no h1 _).mono ?_
  rintro e w4 ⟨rfl, hb⟩
  have b4 : Below U4.heap.size U4 w4 := hb
  replace Pa := Pa.below b4
  replace Pb := Pb.below b4
  replace Ps := Ps.below b4
  replace Pp := Pp.below b4
  replace B := below_of B b4 B.size
  have sw4 := b4.size
  go_wp2_with fail
  refine hK.out _ _ ?_ (fun hHeld => ?_)
  · (try dsimp only); exact ⟨Pa.1, Pa.2.1⟩
  clear hK K
  (try simp only [Act.put, List.setIfInBounds_toArray, List.set_cons_zero, List.set_cons_succ])
  refine wpAnyH_ready (rs := [3]) (by kernel_rfl) (by simp) ?_
  refine AllReadyH.cons (by simp only [List.getElem?_toArray, List.getElem?_cons_succ, List.getElem?_cons_zero] <;> rfl) (fun K hK => ?_) AllReadyH.nil
  go_simp
  with_reducible refine (bright_no h1 _).mono ?_
  rintro e w5 ⟨rfl, hb⟩
  have b5 : Below w4.heap.size w4 w5 := hb
  replace Pa := Pa.below b5
  replace Pb := Pb.below b5
  replace Ps := Ps.below b5
  replace Pp := Pp.below b5
  replace B := below_of B b5 B.size
  have sw5 := b5.size
  go_wp2_with fail
  refine hK.out _ _ ?_ (fun hHeld => ?_)
  · (try dsimp only); exact ⟨Pa.1, Pa.2.1⟩
  clear hK K
  (try simp only [Act.put, List.setIfInBounds_toArray, List.set_cons_zero, List.set_cons_succ])
  refine wpAnyH_take (i := 4) (v := ?_) (by simp only [List.getElem?_toArray, List.getElem?_cons_succ, List.getElem?_cons_zero] <;> rfl) (by kernel_rfl) (by kernel_rfl) (by kernel_rfl) (by exact fun _ _ _ h => h) (Or.inl ⟨by rfl, ?_⟩) hHeld ?_
  rotate_left
  · intro w hSw; (try dsimp only at hSw); go_simp; (try with_reducible rfl)
  (try simp only [Act.put, List.setIfInBounds_toArray, List.set_cons_zero, List.set_cons_succ])
  refine wpAnyH_done (by kernel_rfl) ?_ _
  obtain ⟨pa, qa, ra, fa, ga⟩ := id Pa
  obtain ⟨pb, qb, rb, fb, gb⟩ := id Pb
  obtain ⟨ps, qs, rs, fs, gs⟩ := id Ps
  obtain ⟨pp, qp, rp, fp, gp⟩ := id Pp
  go_wp2_with fail
  with_reducible refine (bright_no h1 _).mono ?_
  rintro e w6 ⟨rfl, hb⟩
  have b6 : Below w5.heap.size w5 w6 := hb
  replace Pa := Pa.below b6
  replace Pb := Pb.below b6
  replace Ps := Ps.below b6
  replace Pp := Pp.below b6
  replace B := below_of B b6 B.size
  have sw6 := b6.size
  obtain ⟨pa, qa, ra, fa, ga⟩ := id Pa
  obtain ⟨pb, qb, rb, fb, gb⟩ := id Pb
  obtain ⟨ps, qs, rs, fs, gs⟩ := id Ps
  obtain ⟨pp, qp, rp, fp, gp⟩ := id Pp
  go_wp2_with fail
  go_ret
  exact ⟨rfl, B⟩

set_option maxRecDepth 100000 in
set_option maxHeartbeats 4000000 in
theorem fadds_no2 (an ad bn bd : Int) (h1 : FOk an ad) (h2 : ¬ FOk bn bd) (w : World) :
    Calls Try.prog 5 #[.agg #[.int .i64 an, .int .i64 ad], .agg #[.int .i64 bn, .int .i64 bd]] w fun e w' => e = .returned (.bool true) ∧ Below w.heap.size w w' := by
  have B := Below.refl w.heap.size w
  have hs0 := B.size
  obtain ⟨V1, hV1⟩ : ∃ V, w.alloc (.cells #[.int .i64 (an), .int .i64 (ad)] 50) = V := ⟨_, rfl⟩
  have AV1 : Below w.heap.size w V1 := hV1 ▸ (Below.refl _ _).alloc (Nat.le_refl _) _
  have zV1 : w.heap.size + 1 = V1.heap.size := by rw [← hV1]; simp
  have Pa : FAt V1 w.heap.size (an) (ad) := hV1 ▸ FAt.new w _ _
  replace B := below_of B AV1 B.size
  have sV1 := B.size
  obtain ⟨V2, hV2⟩ : ∃ V, V1.alloc (.cells #[.int .i64 (bn), .int .i64 (bd)] 50) = V := ⟨_, rfl⟩
  have AV2 : Below V1.heap.size V1 V2 := hV2 ▸ (Below.refl _ _).alloc (Nat.le_refl _) _
  have zV2 : V1.heap.size + 1 = V2.heap.size := by rw [← hV2]; simp
  replace Pa := Pa.below AV2
  have Pb : FAt V2 V1.heap.size (bn) (bd) := hV2 ▸ FAt.new V1 _ _
  replace B := below_of B AV2 B.size
  have sV2 := B.size
  go_enter Try.func5, Try.ntmps5
  obtain ⟨pa, qa, ra, fa, ga⟩ := id Pa
  obtain ⟨pb, qb, rb, fb, gb⟩ := id Pb
  go_wp2_with fail
  try rw [hV1]
  try rw [hV2]
  with_reducible refine (cmpF_no2 an ad bn bd h1 h2 _).mono ?_
  rintro e w1 ⟨rfl, hb⟩
  have b1 : Below V2.heap.size V2 w1 := hb
  replace Pa := Pa.below b1
  replace Pb := Pb.below b1
  replace B := below_of B b1 B.size
  have sw1 := b1.size
  obtain ⟨pa, qa, ra, fa, ga⟩ := id Pa
  obtain ⟨pb, qb, rb, fb, gb⟩ := id Pb
  go_wp2_with fail
  with_reducible refine (addF_no2 an ad bn bd h1 h2 _).mono ?_
  rintro e w2 ⟨rfl, hb⟩
  have b2 : Below w1.heap.size w1 w2 := hb
  replace Pa := Pa.below b2
  replace Pb := Pb.below b2
  replace B := below_of B b2 B.size
  have sw2 := b2.size
  obtain ⟨pa, qa, ra, fa, ga⟩ := id Pa
  obtain ⟨pb, qb, rb, fb, gb⟩ := id Pb
  obtain ⟨V3, hV3⟩ : ∃ V, w2.alloc (.cells #[.int .i64 (0), .int .i64 (0)] 50) = V := ⟨_, rfl⟩
  have AV3 : Below w2.heap.size w2 V3 := hV3 ▸ (Below.refl _ _).alloc (Nat.le_refl _) _
  have zV3 : w2.heap.size + 1 = V3.heap.size := by rw [← hV3]; simp
  replace Pa := Pa.below AV3
  replace Pb := Pb.below AV3
  have Ps : FAt V3 w2.heap.size (0) (0) := hV3 ▸ FAt.new w2 _ _
  replace B := below_of B AV3 B.size
  have sV3 := B.size
  have HV3 := Lib.hid hV3
  clear hV3
  obtain ⟨pa, qa, ra, fa, ga⟩ := id Pa
  obtain ⟨pb, qb, rb, fb, gb⟩ := id Pb
  obtain ⟨ps, qs, rs, fs, gs⟩ := id Ps
  go_wp2_with fail
  rw [HV3.out]
  with_reducible refine (mulF_no2 an ad bn bd h1 h2 _).mono ?_
  rintro e w3 ⟨rfl, hb⟩
  have b3 : Below V3.heap.size V3 w3 := hb
  replace Pa := Pa.below b3
  replace Pb := Pb.below b3
  replace Ps := Ps.below b3
  replace B := below_of B b3 B.size
  have sw3 := b3.size
  obtain ⟨pa, qa, ra, fa, ga⟩ := id Pa
  obtain ⟨pb, qb, rb, fb, gb⟩ := id Pb
  obtain ⟨ps, qs, rs, fs, gs⟩ := id Ps
  obtain ⟨V4, hV4⟩ : ∃ V, w3.alloc (.cells #[.int .i64 (0), .int .i64 (0)] 50) = V := ⟨_, rfl⟩
  have AV4 : Below w3.heap.size w3 V4 := hV4 ▸ (Below.refl _ _).alloc (Nat.le_refl _) _
  have zV4 : w3.heap.size + 1 = V4.heap.size := by rw [← hV4]; simp
  replace Pa := Pa.below AV4
  replace Pb := Pb.below AV4
  replace Ps := Ps.below AV4
  have Pp : FAt V4 w3.heap.size (0) (0) := hV4 ▸ FAt.new w3 _ _
  replace B := below_of B AV4 B.size
  have sV4 := B.size
  have HV4 := Lib.hid hV4
  clear hV4
  obtain ⟨pa, qa, ra, fa, ga⟩ := id Pa
  obtain ⟨pb, qb, rb, fb, gb⟩ := id Pb
  obtain ⟨ps, qs, rs, fs, gs⟩ := id Ps
  obtain ⟨pp, qp, rp, fp, gp⟩ := id Pp
  go_wp2_with fail
  rw [HV4.out]
  obtain ⟨U4, hU4⟩ : ∃ V, V4.drew = V := ⟨_, rfl⟩
  have DU4 : Below V4.heap.size V4 U4 := hU4 ▸ below_drewN (Below.refl _ _) 1
  replace Pa := Pa.below DU4
  replace Pb := Pb.below DU4
  replace Ps := Ps.below DU4
  replace Pp := Pp.below DU4
  replace B := below_of B DU4 B.size
  refine wp_region_held_drew (S := (fun w' => w'.cell? ⟨w.heap.size, 0, none⟩ = some (.int .i64 an) ∧ w'.cell? ⟨w.heap.size, 1, none⟩ = some (.int .i64 ad))) (by kernel_rfl) (hU4 ▸ ⟨Pa.1, Pa.2.1⟩) (fun hHeld => ?_)
  rw [hU4] at hHeld ⊢
  refine wpAnyH_take (i := 0) (v := ?_) (by simp only [List.getElem?_toArray, List.getElem?_cons_zero] <;> rfl) (by kernel_rfl) (by kernel_rfl) (by kernel_rfl) (by exact fun _ _ _ h => h) (Or.inl ⟨by rfl, ?_⟩) hHeld ?_
  rotate_left
  · intro w hSw; (try dsimp only at hSw); go_simp; (try with_reducible rfl)
  (try simp only [Act.put, List.setIfInBounds_toArray, List.set_cons_zero, List.set_cons_succ])
  refine wpAnyH_take (i := 2) (v := ?_) (by simp only [List.getElem?_toArray, List.getElem?_cons_succ, List.getElem?_cons_zero] <;> rfl) (by kernel_rfl) (by kernel_rfl) (by kernel_rfl) (by exact fun _ _ _ h => h) (Or.inl ⟨by rfl, ?_⟩) hHeld ?_
  rotate_left
  · intro w hSw; (try dsimp only at hSw); go_simp; (try with_reducible rfl)
  (try simp only [Act.put, List.setIfInBounds_toArray, List.set_cons_zero, List.set_cons_succ])
  refine wpAnyH_ready (rs := [1]) (by kernel_rfl) (by simp) ?_
  refine AllReadyH.cons (by simp only [List.getElem?_toArray, List.getElem?_cons_succ, List.getElem?_cons_zero] <;> rfl) (fun K hK => ?_) AllReadyH.nil
  go_simp
  with_reducible refine (right_yes h1 _).mono ?_
  rintro e w4 ⟨rfl, hb⟩
  have b4 : Below U4.heap.size U4 w4 := hb
  replace Pa := Pa.below b4
  replace Pb := Pb.below b4
  replace Ps := Ps.below b4
  replace Pp := Pp.below b4
  replace B := below_of B b4 B.size
  have sw4 := b4.size
  go_wp2_with fail
  refine hK.out _ _ ?_ (fun hHeld => ?_)
  · (try dsimp only); exact ⟨Pa.1, Pa.2.1⟩
  clear hK K
  (try simp only [Act.put, List.setIfInBounds_toArray, List.set_cons_zero, List.set_cons_succ])
  refine wpAnyH_ready (rs := [3]) (by kernel_rfl) (by simp) ?_
  refine AllReadyH.cons (by simp only [List.getElem?_toArray, List.getElem?_cons_succ, List.getElem?_cons_zero] <;> rfl) (fun K hK => ?_) AllReadyH.nil
  go_simp
  with_reducible refine (bright_yes h1 _).mono ?_
  rintro e w5 ⟨rfl, hb⟩
  have b5 : Below w4.heap.size w4 w5 := hb
  replace Pa := Pa.below b5
  replace Pb := Pb.below b5
  replace Ps := Ps.below b5
  replace Pp := Pp.below b5
  replace B := below_of B b5 B.size
  have sw5 := b5.size
  go_wp2_with fail
  refine hK.out _ _ ?_ (fun hHeld => ?_)
  · (try dsimp only); exact ⟨Pa.1, Pa.2.1⟩
  clear hK K
  (try simp only [Act.put, List.setIfInBounds_toArray, List.set_cons_zero, List.set_cons_succ])
  refine wpAnyH_take (i := 4) (v := ?_) (by simp only [List.getElem?_toArray, List.getElem?_cons_succ, List.getElem?_cons_zero] <;> rfl) (by kernel_rfl) (by kernel_rfl) (by kernel_rfl) (by exact fun _ _ _ h => h) (Or.inl ⟨by rfl, ?_⟩) hHeld ?_
  rotate_left
  · intro w hSw; (try dsimp only at hSw); go_simp; (try with_reducible rfl)
  (try simp only [Act.put, List.setIfInBounds_toArray, List.set_cons_zero, List.set_cons_succ])
  refine wpAnyH_done (by kernel_rfl) ?_ _
  obtain ⟨pa, qa, ra, fa, ga⟩ := id Pa
  obtain ⟨pb, qb, rb, fb, gb⟩ := id Pb
  obtain ⟨ps, qs, rs, fs, gs⟩ := id Ps
  obtain ⟨pp, qp, rp, fp, gp⟩ := id Pp
  go_wp2_with fail
  with_reducible refine (bright_yes h1 _).mono ?_
  rintro e w6 ⟨rfl, hb⟩
  have b6 : Below w5.heap.size w5 w6 := hb
  replace Pa := Pa.below b6
  replace Pb := Pb.below b6
  replace Ps := Ps.below b6
  replace Pp := Pp.below b6
  replace B := below_of B b6 B.size
  have sw6 := b6.size
  obtain ⟨pa, qa, ra, fa, ga⟩ := id Pa
  obtain ⟨pb, qb, rb, fb, gb⟩ := id Pb
  obtain ⟨ps, qs, rs, fs, gs⟩ := id Ps
  obtain ⟨pp, qp, rp, fp, gp⟩ := id Pp
  go_wp2_with fail
  with_reducible refine (bright_no h2 _).mono ?_
  rintro e w7 ⟨rfl, hb⟩
  have b7 : Below w6.heap.size w6 w7 := hb
  replace Pa := Pa.below b7
  replace Pb := Pb.below b7
  replace Ps := Ps.below b7
  replace Pp := Pp.below b7
  replace B := below_of B b7 B.size
  have sw7 := b7.size
  obtain ⟨pa, qa, ra, fa, ga⟩ := id Pa
  obtain ⟨pb, qb, rb, fb, gb⟩ := id Pb
  obtain ⟨ps, qs, rs, fs, gs⟩ := id Ps
  obtain ⟨pp, qp, rp, fp, gp⟩ := id Pp
  go_wp2_with fail
  go_ret
  exact ⟨rfl, B⟩

end Go.Proofs.Ytfopcipapphogaa
