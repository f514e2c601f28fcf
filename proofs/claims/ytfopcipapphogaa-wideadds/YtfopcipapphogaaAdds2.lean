/- WideAdds of package weirhouselaw: its walk. -/
import Derived.Test.YtfopcipapphogaaAdds
import Derived.Test.YtfopcipapphogaaWide2
namespace Go.Proofs.Ytfopcipapphogaa
open Go.RowKit

set_option maxRecDepth 100000 in
set_option maxHeartbeats 2000000 in
theorem adds_over (ah al bh bl : Int) (X Y : Int) (sh sl dh dl c : Int) (u : Bool)
    (cA : ∀ w, Calls Try.prog 11 #[.agg #[.int .u64 ah, .int .u64 al]] w (NewInt w X)) (cB : ∀ w, Calls Try.prog 11 #[.agg #[.int .u64 bh, .int .u64 bl]] w (NewInt w Y))
    (c1 : ∀ w, Calls Try.prog 12 #[.agg #[.int .u64 ah, .int .u64 al], .agg #[.int .u64 bh, .int .u64 bl]] w fun e w' => e = .returned (.tuple #[.agg #[.int .u64 sh, .int .u64 sl], .bool true]) ∧ Below w.heap.size w w')
    (c2 : ∀ w, Calls Try.prog 13 #[.agg #[.int .u64 ah, .int .u64 al], .agg #[.int .u64 bh, .int .u64 bl]] w fun e w' => e = .returned (.tuple #[.agg #[.int .u64 dh, .int .u64 dl], .bool u]) ∧ Below w.heap.size w w')
    (c3 : ∀ w, Calls Try.prog 17 #[.agg #[.int .u64 ah, .int .u64 al], .agg #[.int .u64 bh, .int .u64 bl]] w fun e w' => e = .returned (.int .i64 c) ∧ Below w.heap.size w w')
    (c4 : ∀ w, Calls Try.prog 19 #[.agg #[.int .u64 ah, .int .u64 al], .agg #[.int .u64 bh, .int .u64 bl]] w fun e w' => e = .returned (.agg #[.int .u64 18446744073709551615, .int .u64 18446744073709551615]) ∧ Below w.heap.size w w')
    (c5 : cmpI X Y = c) (v1 : Fits (X + Y).natAbs) (v2 : Fits (X - Y).natAbs)
    (c6 : ∀ g w, IntAt w g (X + Y) → Calls Try.prog 14 #[.pointer (some ⟨g, 0, none⟩)] w fun e w' => e = .returned (.tuple #[.agg #[.int .u64 sh, .int .u64 sl], .bool true]) ∧ Below w.heap.size w w')
    (c7 : ∀ g w, IntAt w g (X - Y) → Calls Try.prog 14 #[.pointer (some ⟨g, 0, none⟩)] w fun e w' => e = .returned (.tuple #[.agg #[.int .u64 dh, .int .u64 dl], .bool u]) ∧ Below w.heap.size w w') (w : World) :
    Calls Try.prog 3 #[.agg #[.int .u64 ah, .int .u64 al], .agg #[.int .u64 bh, .int .u64 bl]] w fun e w' => e = .returned (.bool true) ∧ Below w.heap.size w w' := by
  have B := Below.refl w.heap.size w
  have hs0 := B.size
  obtain ⟨V1, hV1⟩ : ∃ V, w.alloc (.cells #[.int .u64 (ah), .int .u64 (al)] 24) = V := ⟨_, rfl⟩
  have AV1 : Below w.heap.size w V1 := hV1 ▸ (Below.refl _ _).alloc (Nat.le_refl _) _
  have zV1 : w.heap.size + 1 = V1.heap.size := by rw [← hV1]; simp
  have Pa : At V1 w.heap.size (ah) (al) := hV1 ▸ At.new w _ _
  replace B := below_of B AV1 B.size
  have sV1 := B.size
  obtain ⟨V2, hV2⟩ : ∃ V, V1.alloc (.cells #[.int .u64 (bh), .int .u64 (bl)] 24) = V := ⟨_, rfl⟩
  have AV2 : Below V1.heap.size V1 V2 := hV2 ▸ (Below.refl _ _).alloc (Nat.le_refl _) _
  have zV2 : V1.heap.size + 1 = V2.heap.size := by rw [← hV2]; simp
  replace Pa := Pa.below AV2
  have Pb : At V2 V1.heap.size (bh) (bl) := hV2 ▸ At.new V1 _ _
  replace B := below_of B AV2 B.size
  have sV2 := B.size
  go_enter Try.func3, Try.ntmps3
  obtain ⟨pa, qa, ra, fa, ga⟩ := id Pa
  obtain ⟨pb, qb, rb, fb, gb⟩ := id Pb
  go_wp2_with fail
  try rw [hV1]
  try rw [hV2]
  obtain ⟨V, hV⟩ : ∃ V, V2.drew = V := ⟨_, rfl⟩
  have DV : Below V2.heap.size V2 V := hV ▸ below_drewN (Below.refl _ _) 1
  replace Pa := Pa.below DV
  replace Pb := Pb.below DV
  replace B := below_of B DV B.size
  have sV := B.size
  refine wp_region_held_drew (S := (fun w' => w'.cell? ⟨w.heap.size, 0, none⟩ = some (.int .u64 ah) ∧ w'.cell? ⟨w.heap.size, 1, none⟩ = some (.int .u64 al) ∧ w'.cell? ⟨V1.heap.size, 0, none⟩ = some (.int .u64 bh) ∧ w'.cell? ⟨V1.heap.size, 1, none⟩ = some (.int .u64 bl))) (by kernel_rfl) (hV ▸ ⟨Pa.1, Pa.2.1, Pb.1, Pb.2.1⟩) (fun hHeld => ?_)
  rw [hV] at hHeld ⊢
  refine wpAnyH_take (i := 0) (v := ?_) (by simp only [List.getElem?_toArray, List.getElem?_cons_zero] <;> rfl) (by kernel_rfl) (by kernel_rfl) (by kernel_rfl) (by exact fun _ _ _ h => h) (Or.inl ⟨by rfl, ?_⟩) hHeld ?_
  rotate_left
  · intro w hSw; (try dsimp only at hSw); go_simp; (try with_reducible rfl)
  (try simp only [Act.put, List.setIfInBounds_toArray, List.set_cons_zero, List.set_cons_succ])
  refine wpAnyH_take (i := 2) (v := ?_) (by simp only [List.getElem?_toArray, List.getElem?_cons_succ, List.getElem?_cons_zero] <;> rfl) (by kernel_rfl) (by kernel_rfl) (by kernel_rfl) (by exact fun _ _ _ h => h) (Or.inl ⟨by rfl, ?_⟩) hHeld ?_
  rotate_left
  · intro w hSw; (try dsimp only at hSw); go_simp; (try with_reducible rfl)
  (try simp only [Act.put, List.setIfInBounds_toArray, List.set_cons_zero, List.set_cons_succ])
  refine wpAnyH_ready (rs := [1]) (by kernel_rfl) (by simp) ?_
  refine AllReadyH.cons (by simp only [List.getElem?_toArray, List.getElem?_cons_succ, List.getElem?_cons_zero] <;> rfl) (fun K hK => ?_) AllReadyH.nil
  go_simp
  with_reducible refine (cA _).mono ?_
  rintro e w1 ⟨gx, hgx, rfl, hb, Ix⟩
  have b1 : Below V.heap.size V w1 := hb
  replace Pa := Pa.below b1
  replace Pb := Pb.below b1
  replace B := below_of B b1 B.size
  have sw1 := b1.size
  have lx := Ix.room.lt
  go_wp2_with fail
  refine hK.out _ _ ?_ (fun hHeld => ?_)
  · (try dsimp only); exact ⟨Pa.1, Pa.2.1, Pb.1, Pb.2.1⟩
  clear hK K
  (try simp only [Act.put, List.setIfInBounds_toArray, List.set_cons_zero, List.set_cons_succ])
  refine wpAnyH_ready (rs := [3]) (by kernel_rfl) (by simp) ?_
  refine AllReadyH.cons (by simp only [List.getElem?_toArray, List.getElem?_cons_succ, List.getElem?_cons_zero] <;> rfl) (fun K hK => ?_) AllReadyH.nil
  go_simp
  with_reducible refine (cB _).mono ?_
  rintro e w2 ⟨gy, hgy, rfl, hb, Iy⟩
  have b2 : Below w1.heap.size w1 w2 := hb
  replace Pa := Pa.below b2
  replace Pb := Pb.below b2
  replace Ix := Ix.below b2
  replace B := below_of B b2 B.size
  have sw2 := b2.size
  have ly := Iy.room.lt
  go_wp2_with fail
  refine hK.out _ _ ?_ (fun hHeld => ?_)
  · (try dsimp only); exact ⟨Pa.1, Pa.2.1, Pb.1, Pb.2.1⟩
  clear hK K
  (try simp only [Act.put, List.setIfInBounds_toArray, List.set_cons_zero, List.set_cons_succ])
  refine wpAnyH_take (i := 4) (v := ?_) (by simp only [List.getElem?_toArray, List.getElem?_cons_succ, List.getElem?_cons_zero] <;> rfl) (by kernel_rfl) (by kernel_rfl) (by kernel_rfl) (by exact fun _ _ _ h => h) (Or.inl ⟨by rfl, ?_⟩) hHeld ?_
  rotate_left
  · intro w hSw; (try dsimp only at hSw); go_simp; (try with_reducible rfl)
  (try simp only [Act.put, List.setIfInBounds_toArray, List.set_cons_zero, List.set_cons_succ])
  refine wpAnyH_take (i := 5) (v := ?_) (by simp only [List.getElem?_toArray, List.getElem?_cons_succ, List.getElem?_cons_zero] <;> rfl) (by kernel_rfl) (by kernel_rfl) (by kernel_rfl) (by exact fun _ _ _ h => h) (Or.inl ⟨by rfl, ?_⟩) hHeld ?_
  rotate_left
  · intro w hSw; (try dsimp only at hSw); go_simp; (try with_reducible rfl)
  (try simp only [Act.put, List.setIfInBounds_toArray, List.set_cons_zero, List.set_cons_succ])
  refine wpAnyH_done (by kernel_rfl) ?_ _
  obtain ⟨pa, qa, ra, fa, ga⟩ := id Pa
  obtain ⟨pb, qb, rb, fb, gb⟩ := id Pb
  go_wp2_with fail
  with_reducible refine (c1 _).mono ?_
  rintro e w3 ⟨rfl, hb⟩
  have b3 : Below w2.heap.size w2 w3 := hb
  replace Pa := Pa.below b3
  replace Pb := Pb.below b3
  replace Ix := Ix.below b3
  replace Iy := Iy.below b3
  replace B := below_of B b3 B.size
  have sw3 := b3.size
  obtain ⟨V3, hV3⟩ : ∃ V, w3.alloc (.cells #[.int .u64 (sh), .int .u64 (sl)] 24) = V := ⟨_, rfl⟩
  have AV3 : Below w3.heap.size w3 V3 := hV3 ▸ (Below.refl _ _).alloc (Nat.le_refl _) _
  have zV3 : w3.heap.size + 1 = V3.heap.size := by rw [← hV3]; simp
  replace Pa := Pa.below AV3
  replace Pb := Pb.below AV3
  replace Ix := Ix.below AV3
  replace Iy := Iy.below AV3
  have Ps : At V3 w3.heap.size (sh) (sl) := hV3 ▸ At.new w3 _ _
  replace B := below_of B AV3 B.size
  have sV3 := B.size
  obtain ⟨pa, qa, ra, fa, ga⟩ := id Pa
  obtain ⟨pb, qb, rb, fb, gb⟩ := id Pb
  obtain ⟨ps, qs, rs, fs, gs⟩ := id Ps
  go_wp2_with fail
  try rw [hV3]
  with_reducible refine (c2 _).mono ?_
  rintro e w4 ⟨rfl, hb⟩
  have b4 : Below V3.heap.size V3 w4 := hb
  replace Pa := Pa.below b4
  replace Pb := Pb.below b4
  replace Ps := Ps.below b4
  replace Ix := Ix.below b4
  replace Iy := Iy.below b4
  replace B := below_of B b4 B.size
  have sw4 := b4.size
  obtain ⟨V4, hV4⟩ : ∃ V, w4.alloc (.cells #[.int .u64 (dh), .int .u64 (dl)] 24) = V := ⟨_, rfl⟩
  have AV4 : Below w4.heap.size w4 V4 := hV4 ▸ (Below.refl _ _).alloc (Nat.le_refl _) _
  have zV4 : w4.heap.size + 1 = V4.heap.size := by rw [← hV4]; simp
  replace Pa := Pa.below AV4
  replace Pb := Pb.below AV4
  replace Ps := Ps.below AV4
  replace Ix := Ix.below AV4
  replace Iy := Iy.below AV4
  have Pd : At V4 w4.heap.size (dh) (dl) := hV4 ▸ At.new w4 _ _
  replace B := below_of B AV4 B.size
  have sV4 := B.size
  obtain ⟨pa, qa, ra, fa, ga⟩ := id Pa
  obtain ⟨pb, qb, rb, fb, gb⟩ := id Pb
  obtain ⟨ps, qs, rs, fs, gs⟩ := id Ps
  obtain ⟨pd, qd, rd, fd, gd⟩ := id Pd
  go_wp2_with fail
  try rw [hV4]
  have AN := (Below.refl V4.heap.size V4).alloc (Nat.le_refl _) (.cells #[.bool false, .slice none 0 0] 32)
  with_reducible refine (add_int V4.heap.size gx gy X Y _ (room_new V4) (Ix.below AN) (Iy.below AN) v1).mono ?_
  rintro e w5 ⟨rfl, gr, Im⟩
  have b5 : Below V4.heap.size V4 w5 := below_of_grown ((Below.refl _ _).alloc (Nat.le_refl _) _) gr (Nat.le_refl _)
  replace Pa := Pa.below b5
  replace Pb := Pb.below b5
  replace Ps := Ps.below b5
  replace Pd := Pd.below b5
  replace Ix := Ix.below b5
  replace Iy := Iy.below b5
  replace B := below_of B b5 B.size
  have sw5 := b5.size
  have lm := Im.room.lt
  clear AN
  obtain ⟨pa, qa, ra, fa, ga⟩ := id Pa
  obtain ⟨pb, qb, rb, fb, gb⟩ := id Pb
  obtain ⟨ps, qs, rs, fs, gs⟩ := id Ps
  obtain ⟨pd, qd, rd, fd, gd⟩ := id Pd
  go_wp2_with fail
  with_reducible refine (c6 _ _ Im).mono ?_
  rintro e w6 ⟨rfl, hb⟩
  have b6 : Below w5.heap.size w5 w6 := hb
  replace Pa := Pa.below b6
  replace Pb := Pb.below b6
  replace Ps := Ps.below b6
  replace Pd := Pd.below b6
  replace Ix := Ix.below b6
  replace Iy := Iy.below b6
  replace Im := Im.below b6
  replace B := below_of B b6 B.size
  have sw6 := b6.size
  obtain ⟨V5, hV5⟩ : ∃ V, w6.alloc (.cells #[.int .u64 (sh), .int .u64 (sl)] 24) = V := ⟨_, rfl⟩
  have AV5 : Below w6.heap.size w6 V5 := hV5 ▸ (Below.refl _ _).alloc (Nat.le_refl _) _
  have zV5 : w6.heap.size + 1 = V5.heap.size := by rw [← hV5]; simp
  replace Pa := Pa.below AV5
  replace Pb := Pb.below AV5
  replace Ps := Ps.below AV5
  replace Pd := Pd.below AV5
  replace Ix := Ix.below AV5
  replace Iy := Iy.below AV5
  replace Im := Im.below AV5
  have Pt : At V5 w6.heap.size (sh) (sl) := hV5 ▸ At.new w6 _ _
  replace B := below_of B AV5 B.size
  have sV5 := B.size
  obtain ⟨pa, qa, ra, fa, ga⟩ := id Pa
  obtain ⟨pb, qb, rb, fb, gb⟩ := id Pb
  obtain ⟨ps, qs, rs, fs, gs⟩ := id Ps
  obtain ⟨pd, qd, rd, fd, gd⟩ := id Pd
  obtain ⟨pt, qt, rt, ft, gt⟩ := id Pt
  go_wp2_with fail
  try rw [hV5]
  have AN := (Below.refl V5.heap.size V5).alloc (Nat.le_refl _) (.cells #[.bool false, .slice none 0 0] 32)
  with_reducible refine (sub_int V5.heap.size gx gy X Y _ (room_new V5) (Ix.below AN) (Iy.below AN) v2).mono ?_
  rintro e w7 ⟨rfl, gr, In⟩
  have b7 : Below V5.heap.size V5 w7 := below_of_grown ((Below.refl _ _).alloc (Nat.le_refl _) _) gr (Nat.le_refl _)
  replace Pa := Pa.below b7
  replace Pb := Pb.below b7
  replace Ps := Ps.below b7
  replace Pd := Pd.below b7
  replace Pt := Pt.below b7
  replace Ix := Ix.below b7
  replace Iy := Iy.below b7
  replace Im := Im.below b7
  replace B := below_of B b7 B.size
  have sw7 := b7.size
  have ln := In.room.lt
  clear AN
  obtain ⟨pa, qa, ra, fa, ga⟩ := id Pa
  obtain ⟨pb, qb, rb, fb, gb⟩ := id Pb
  obtain ⟨ps, qs, rs, fs, gs⟩ := id Ps
  obtain ⟨pd, qd, rd, fd, gd⟩ := id Pd
  obtain ⟨pt, qt, rt, ft, gt⟩ := id Pt
  go_wp2_with fail
  with_reducible refine (c7 _ _ In).mono ?_
  rintro e w8 ⟨rfl, hb⟩
  have b8 : Below w7.heap.size w7 w8 := hb
  replace Pa := Pa.below b8
  replace Pb := Pb.below b8
  replace Ps := Ps.below b8
  replace Pd := Pd.below b8
  replace Pt := Pt.below b8
  replace Ix := Ix.below b8
  replace Iy := Iy.below b8
  replace Im := Im.below b8
  replace In := In.below b8
  replace B := below_of B b8 B.size
  have sw8 := b8.size
  obtain ⟨V6, hV6⟩ : ∃ V, w8.alloc (.cells #[.int .u64 (dh), .int .u64 (dl)] 24) = V := ⟨_, rfl⟩
  have AV6 : Below w8.heap.size w8 V6 := hV6 ▸ (Below.refl _ _).alloc (Nat.le_refl _) _
  have zV6 : w8.heap.size + 1 = V6.heap.size := by rw [← hV6]; simp
  replace Pa := Pa.below AV6
  replace Pb := Pb.below AV6
  replace Ps := Ps.below AV6
  replace Pd := Pd.below AV6
  replace Pt := Pt.below AV6
  replace Ix := Ix.below AV6
  replace Iy := Iy.below AV6
  replace Im := Im.below AV6
  replace In := In.below AV6
  have Pe : At V6 w8.heap.size (dh) (dl) := hV6 ▸ At.new w8 _ _
  replace B := below_of B AV6 B.size
  have sV6 := B.size
  obtain ⟨pa, qa, ra, fa, ga⟩ := id Pa
  obtain ⟨pb, qb, rb, fb, gb⟩ := id Pb
  obtain ⟨ps, qs, rs, fs, gs⟩ := id Ps
  obtain ⟨pd, qd, rd, fd, gd⟩ := id Pd
  obtain ⟨pt, qt, rt, ft, gt⟩ := id Pt
  obtain ⟨pe, qe, re, fe, ge⟩ := id Pe
  obtain ⟨V7, hV7⟩ : ∃ V, V6.alloc (.cells #[.int .u64 (18446744073709551615), .int .u64 (18446744073709551615)] 24) = V := ⟨_, rfl⟩
  have AV7 : Below V6.heap.size V6 V7 := hV7 ▸ (Below.refl _ _).alloc (Nat.le_refl _) _
  have zV7 : V6.heap.size + 1 = V7.heap.size := by rw [← hV7]; simp
  replace Pa := Pa.below AV7
  replace Pb := Pb.below AV7
  replace Ps := Ps.below AV7
  replace Pd := Pd.below AV7
  replace Pt := Pt.below AV7
  replace Pe := Pe.below AV7
  replace Ix := Ix.below AV7
  replace Iy := Iy.below AV7
  replace Im := Im.below AV7
  replace In := In.below AV7
  have Pu : At V7 V6.heap.size (18446744073709551615) (18446744073709551615) := hV7 ▸ At.new V6 _ _
  replace B := below_of B AV7 B.size
  have sV7 := B.size
  obtain ⟨pa, qa, ra, fa, ga⟩ := id Pa
  obtain ⟨pb, qb, rb, fb, gb⟩ := id Pb
  obtain ⟨ps, qs, rs, fs, gs⟩ := id Ps
  obtain ⟨pd, qd, rd, fd, gd⟩ := id Pd
  obtain ⟨pt, qt, rt, ft, gt⟩ := id Pt
  obtain ⟨pe, qe, re, fe, ge⟩ := id Pe
  obtain ⟨pu, qu, ru, fu, gu⟩ := id Pu
  go_wp2_with fail
  try rw [hV6]
  try rw [hV7]
  obtain ⟨V9, hV9⟩ : ∃ V, V7.drew = V := ⟨_, rfl⟩
  have DV9 : Below V7.heap.size V7 V9 := hV9 ▸ below_drewN (Below.refl _ _) 1
  replace Pa := Pa.below DV9
  replace Pb := Pb.below DV9
  replace Ps := Ps.below DV9
  replace Pd := Pd.below DV9
  replace Pt := Pt.below DV9
  replace Pe := Pe.below DV9
  replace Pu := Pu.below DV9
  replace Ix := Ix.below DV9
  replace Iy := Iy.below DV9
  replace Im := Im.below DV9
  replace In := In.below DV9
  replace B := below_of B DV9 B.size
  refine wp_region_held_drew (S := (fun w' => w'.cell? ⟨w.heap.size, 0, none⟩ = some (.int .u64 ah) ∧ w'.cell? ⟨w.heap.size, 1, none⟩ = some (.int .u64 al) ∧ w'.cell? ⟨V1.heap.size, 0, none⟩ = some (.int .u64 bh) ∧ w'.cell? ⟨V1.heap.size, 1, none⟩ = some (.int .u64 bl) ∧ w'.cell? ⟨w3.heap.size, 0, none⟩ = some (.int .u64 sh) ∧ w'.cell? ⟨w3.heap.size, 1, none⟩ = some (.int .u64 sl) ∧ w'.cell? ⟨w4.heap.size, 0, none⟩ = some (.int .u64 dh) ∧ w'.cell? ⟨w4.heap.size, 1, none⟩ = some (.int .u64 dl) ∧ w'.cell? ⟨w6.heap.size, 0, none⟩ = some (.int .u64 sh) ∧ w'.cell? ⟨w6.heap.size, 1, none⟩ = some (.int .u64 sl) ∧ w'.cell? ⟨w8.heap.size, 0, none⟩ = some (.int .u64 dh) ∧ w'.cell? ⟨w8.heap.size, 1, none⟩ = some (.int .u64 dl) ∧ w'.cell? ⟨V6.heap.size, 0, none⟩ = some (.int .u64 18446744073709551615) ∧ w'.cell? ⟨V6.heap.size, 1, none⟩ = some (.int .u64 18446744073709551615))) (by kernel_rfl) (hV9 ▸ ⟨Pa.1, Pa.2.1, Pb.1, Pb.2.1, Ps.1, Ps.2.1, Pd.1, Pd.2.1, Pt.1, Pt.2.1, Pe.1, Pe.2.1, Pu.1, Pu.2.1⟩) (fun hHeld => ?_)
  rw [hV9] at hHeld ⊢
  refine wpAnyH_take (i := 0) (v := ?_) (by simp only [List.getElem?_toArray, List.getElem?_cons_zero] <;> rfl) (by kernel_rfl) (by kernel_rfl) (by kernel_rfl) (by exact fun _ _ _ h => h) (Or.inl ⟨by rfl, ?_⟩) hHeld ?_
  rotate_left
  · intro w hSw; (try dsimp only at hSw); go_simp; (try with_reducible rfl)
  (try simp only [Act.put, List.setIfInBounds_toArray, List.set_cons_zero, List.set_cons_succ])
  refine wpAnyH_take (i := 1) (v := ?_) (by simp only [List.getElem?_toArray, List.getElem?_cons_succ, List.getElem?_cons_zero] <;> rfl) (by kernel_rfl) (by kernel_rfl) (by kernel_rfl) (by exact fun _ _ _ h => h) (Or.inl ⟨by rfl, ?_⟩) hHeld ?_
  rotate_left
  · intro w hSw; (try dsimp only at hSw); go_simp; (try with_reducible rfl)
  (try simp only [Act.put, List.setIfInBounds_toArray, List.set_cons_zero, List.set_cons_succ])
  refine wpAnyH_take (i := 3) (v := ?_) (by simp only [List.getElem?_toArray, List.getElem?_cons_succ, List.getElem?_cons_zero] <;> rfl) (by kernel_rfl) (by kernel_rfl) (by kernel_rfl) (by exact fun _ _ _ h => h) (Or.inl ⟨by rfl, ?_⟩) hHeld ?_
  rotate_left
  · intro w hSw; (try dsimp only at hSw); go_simp; (try with_reducible rfl)
  (try simp only [Act.put, List.setIfInBounds_toArray, List.set_cons_zero, List.set_cons_succ])
  refine wpAnyH_take (i := 4) (v := ?_) (by simp only [List.getElem?_toArray, List.getElem?_cons_succ, List.getElem?_cons_zero] <;> rfl) (by kernel_rfl) (by kernel_rfl) (by kernel_rfl) (by exact fun _ _ _ h => h) (Or.inl ⟨by rfl, ?_⟩) hHeld ?_
  rotate_left
  · intro w hSw; (try dsimp only at hSw); go_simp; (try with_reducible rfl)
  (try simp only [Act.put, List.setIfInBounds_toArray, List.set_cons_zero, List.set_cons_succ])
  refine wpAnyH_ready (rs := [2]) (by kernel_rfl) (by simp) ?_
  refine AllReadyH.cons (by simp only [List.getElem?_toArray, List.getElem?_cons_succ, List.getElem?_cons_zero] <;> rfl) (fun K hK => ?_) AllReadyH.nil
  go_simp
  with_reducible refine (c3 _).mono ?_
  rintro e w9 ⟨rfl, hb⟩
  have b9 : Below V9.heap.size V9 w9 := hb
  replace Pa := Pa.below b9
  replace Pb := Pb.below b9
  replace Ps := Ps.below b9
  replace Pd := Pd.below b9
  replace Pt := Pt.below b9
  replace Pe := Pe.below b9
  replace Pu := Pu.below b9
  replace Ix := Ix.below b9
  replace Iy := Iy.below b9
  replace Im := Im.below b9
  replace In := In.below b9
  replace B := below_of B b9 B.size
  have sw9 := b9.size
  go_wp2_with fail
  refine hK.out _ _ ?_ (fun hHeld => ?_)
  · (try dsimp only); exact ⟨Pa.1, Pa.2.1, Pb.1, Pb.2.1, Ps.1, Ps.2.1, Pd.1, Pd.2.1, Pt.1, Pt.2.1, Pe.1, Pe.2.1, Pu.1, Pu.2.1⟩
  clear hK K
  (try simp only [Act.put, List.setIfInBounds_toArray, List.set_cons_zero, List.set_cons_succ])
  refine wpAnyH_ready (rs := [5]) (by kernel_rfl) (by simp) ?_
  refine AllReadyH.cons (by simp only [List.getElem?_toArray, List.getElem?_cons_succ, List.getElem?_cons_zero] <;> rfl) (fun K hK => ?_) AllReadyH.nil
  go_simp
  with_reducible refine (cmp_int gx gy X Y _ Ix Iy).mono ?_
  rintro e w10 ⟨rfl, k, rfl⟩
  rw [c5]
  have DD : Below w9.heap.size w9 (w9.drewN k) := below_drewN (Below.refl _ _) k
  replace Pa := Pa.below DD
  replace Pb := Pb.below DD
  replace Ps := Ps.below DD
  replace Pd := Pd.below DD
  replace Pt := Pt.below DD
  replace Pe := Pe.below DD
  replace Pu := Pu.below DD
  replace Ix := Ix.below DD
  replace Iy := Iy.below DD
  replace Im := Im.below DD
  replace In := In.below DD
  replace B := below_of B DD B.size
  go_wp2_with fail
  refine hK.out _ _ ?_ (fun hHeld => ?_)
  · (try dsimp only); exact ⟨Pa.1, Pa.2.1, Pb.1, Pb.2.1, Ps.1, Ps.2.1, Pd.1, Pd.2.1, Pt.1, Pt.2.1, Pe.1, Pe.2.1, Pu.1, Pu.2.1⟩
  clear hK K
  (try simp only [Act.put, List.setIfInBounds_toArray, List.set_cons_zero, List.set_cons_succ])
  refine wpAnyH_take (i := 6) (v := ?_) (by simp only [List.getElem?_toArray, List.getElem?_cons_succ, List.getElem?_cons_zero] <;> rfl) (by kernel_rfl) (by kernel_rfl) (by kernel_rfl) (by exact fun _ _ _ h => h) (Or.inl ⟨by rfl, ?_⟩) hHeld ?_
  rotate_left
  · intro w hSw; (try dsimp only at hSw); go_simp; (try with_reducible rfl)
  (try simp only [Act.put, List.setIfInBounds_toArray, List.set_cons_zero, List.set_cons_succ])
  refine wpAnyH_take (i := 7) (v := ?_) (by simp only [List.getElem?_toArray, List.getElem?_cons_succ, List.getElem?_cons_zero] <;> rfl) (by kernel_rfl) (by kernel_rfl) (by kernel_rfl) (by exact fun _ _ _ h => h) (Or.inl ⟨by rfl, ?_⟩) hHeld ?_
  rotate_left
  · intro w hSw; (try dsimp only at hSw); go_simp; (try with_reducible rfl)
  (try simp only [Act.put, List.setIfInBounds_toArray, List.set_cons_zero, List.set_cons_succ])
  refine wpAnyH_take (i := 8) (v := ?_) (by simp only [List.getElem?_toArray, List.getElem?_cons_succ, List.getElem?_cons_zero] <;> rfl) (by kernel_rfl) (by kernel_rfl) (by kernel_rfl) (by exact fun _ _ _ h => h) (Or.inl ⟨by rfl, ?_⟩) hHeld ?_
  rotate_left
  · intro w hSw; (try dsimp only at hSw); go_simp; (try with_reducible rfl)
  (try simp only [Act.put, List.setIfInBounds_toArray, List.set_cons_zero, List.set_cons_succ])
  refine wpAnyH_take (i := 9) (v := ?_) (by simp only [List.getElem?_toArray, List.getElem?_cons_succ, List.getElem?_cons_zero] <;> rfl) (by kernel_rfl) (by kernel_rfl) (by kernel_rfl) (by exact fun _ _ _ h => h) (Or.inl ⟨by rfl, ?_⟩) hHeld ?_
  rotate_left
  · intro w hSw; (try dsimp only at hSw); go_simp; (try with_reducible rfl)
  (try simp only [Act.put, List.setIfInBounds_toArray, List.set_cons_zero, List.set_cons_succ])
  refine wpAnyH_take (i := 10) (v := ?_) (by simp only [List.getElem?_toArray, List.getElem?_cons_succ, List.getElem?_cons_zero] <;> rfl) (by kernel_rfl) (by kernel_rfl) (by kernel_rfl) (by exact fun _ _ _ h => h) (Or.inl ⟨by rfl, ?_⟩) hHeld ?_
  rotate_left
  · intro w hSw; (try dsimp only at hSw); go_simp; (try with_reducible rfl)
  (try simp only [Act.put, List.setIfInBounds_toArray, List.set_cons_zero, List.set_cons_succ])
  refine wpAnyH_take (i := 11) (v := ?_) (by simp only [List.getElem?_toArray, List.getElem?_cons_succ, List.getElem?_cons_zero] <;> rfl) (by kernel_rfl) (by kernel_rfl) (by kernel_rfl) (by exact fun _ _ _ h => h) (Or.inl ⟨by rfl, ?_⟩) hHeld ?_
  rotate_left
  · intro w hSw; (try dsimp only at hSw); go_simp; (try with_reducible rfl)
  (try simp only [Act.put, List.setIfInBounds_toArray, List.set_cons_zero, List.set_cons_succ])
  refine wpAnyH_take (i := 12) (v := ?_) (by simp only [List.getElem?_toArray, List.getElem?_cons_succ, List.getElem?_cons_zero] <;> rfl) (by kernel_rfl) (by kernel_rfl) (by kernel_rfl) (by exact fun _ _ _ h => h) (Or.inl ⟨by rfl, ?_⟩) hHeld ?_
  rotate_left
  · intro w hSw; (try dsimp only at hSw); go_simp; (try with_reducible rfl)
  (try simp only [Act.put, List.setIfInBounds_toArray, List.set_cons_zero, List.set_cons_succ])
  refine wpAnyH_take (i := 13) (v := ?_) (by simp only [List.getElem?_toArray, List.getElem?_cons_succ, List.getElem?_cons_zero] <;> rfl) (by kernel_rfl) (by kernel_rfl) (by kernel_rfl) (by exact fun _ _ _ h => h) (Or.inl ⟨by rfl, ?_⟩) hHeld ?_
  rotate_left
  · intro w hSw; (try dsimp only at hSw); go_simp; (try with_reducible rfl)
  (try simp only [Act.put, List.setIfInBounds_toArray, List.set_cons_zero, List.set_cons_succ])
  refine wpAnyH_take (i := 14) (v := ?_) (by simp only [List.getElem?_toArray, List.getElem?_cons_succ, List.getElem?_cons_zero] <;> rfl) (by kernel_rfl) (by kernel_rfl) (by kernel_rfl) (by exact fun _ _ _ h => h) (Or.inl ⟨by rfl, ?_⟩) hHeld ?_
  rotate_left
  · intro w hSw; (try dsimp only at hSw); go_simp; (try with_reducible rfl)
  (try simp only [Act.put, List.setIfInBounds_toArray, List.set_cons_zero, List.set_cons_succ])
  refine wpAnyH_take (i := 15) (v := ?_) (by simp only [List.getElem?_toArray, List.getElem?_cons_succ, List.getElem?_cons_zero] <;> rfl) (by kernel_rfl) (by kernel_rfl) (by kernel_rfl) (by exact fun _ _ _ h => h) (Or.inl ⟨by rfl, ?_⟩) hHeld ?_
  rotate_left
  · intro w hSw; (try dsimp only at hSw); go_simp; (try with_reducible rfl)
  (try simp only [Act.put, List.setIfInBounds_toArray, List.set_cons_zero, List.set_cons_succ])
  refine wpAnyH_take (i := 16) (v := ?_) (by simp only [List.getElem?_toArray, List.getElem?_cons_succ, List.getElem?_cons_zero] <;> rfl) (by kernel_rfl) (by kernel_rfl) (by kernel_rfl) (by exact fun _ _ _ h => h) (Or.inl ⟨by rfl, ?_⟩) hHeld ?_
  rotate_left
  · intro w hSw; (try dsimp only at hSw); go_simp; (try with_reducible rfl)
  (try simp only [Act.put, List.setIfInBounds_toArray, List.set_cons_zero, List.set_cons_succ])
  refine wpAnyH_take (i := 17) (v := ?_) (by simp only [List.getElem?_toArray, List.getElem?_cons_succ, List.getElem?_cons_zero] <;> rfl) (by kernel_rfl) (by kernel_rfl) (by kernel_rfl) (by exact fun _ _ _ h => h) (Or.inl ⟨by rfl, ?_⟩) hHeld ?_
  rotate_left
  · intro w hSw; (try dsimp only at hSw); go_simp; (try with_reducible rfl)
  (try simp only [Act.put, List.setIfInBounds_toArray, List.set_cons_zero, List.set_cons_succ])
  refine wpAnyH_take (i := 18) (v := ?_) (by simp only [List.getElem?_toArray, List.getElem?_cons_succ, List.getElem?_cons_zero] <;> rfl) (by kernel_rfl) (by kernel_rfl) (by kernel_rfl) (by exact fun _ _ _ h => h) (Or.inl ⟨by rfl, ?_⟩) hHeld ?_
  rotate_left
  · intro w hSw; (try dsimp only at hSw); go_simp; (try with_reducible rfl)
  (try simp only [Act.put, List.setIfInBounds_toArray, List.set_cons_zero, List.set_cons_succ])
  refine wpAnyH_take (i := 19) (v := ?_) (by simp only [List.getElem?_toArray, List.getElem?_cons_succ, List.getElem?_cons_zero] <;> rfl) (by kernel_rfl) (by kernel_rfl) (by kernel_rfl) (by exact fun _ _ _ h => h) (Or.inl ⟨by rfl, ?_⟩) hHeld ?_
  rotate_left
  · intro w hSw; (try dsimp only at hSw); go_simp; (try with_reducible rfl)
  (try simp only [Act.put, List.setIfInBounds_toArray, List.set_cons_zero, List.set_cons_succ])
  refine wpAnyH_take (i := 20) (v := ?_) (by simp only [List.getElem?_toArray, List.getElem?_cons_succ, List.getElem?_cons_zero] <;> rfl) (by kernel_rfl) (by kernel_rfl) (by kernel_rfl) (by exact fun _ _ _ h => h) (Or.inl ⟨by rfl, ?_⟩) hHeld ?_
  rotate_left
  · intro w hSw; (try dsimp only at hSw); go_simp; (try with_reducible rfl)
  (try simp only [Act.put, List.setIfInBounds_toArray, List.set_cons_zero, List.set_cons_succ])
  refine wpAnyH_take (i := 21) (v := ?_) (by simp only [List.getElem?_toArray, List.getElem?_cons_succ, List.getElem?_cons_zero] <;> rfl) (by kernel_rfl) (by kernel_rfl) (by kernel_rfl) (by exact fun _ _ _ h => h) (Or.inl ⟨by rfl, ?_⟩) hHeld ?_
  rotate_left
  · intro w hSw; (try dsimp only at hSw); go_simp; (try with_reducible rfl)
  (try simp only [Act.put, List.setIfInBounds_toArray, List.set_cons_zero, List.set_cons_succ])
  refine wpAnyH_take (i := 22) (v := ?_) (by simp only [List.getElem?_toArray, List.getElem?_cons_succ, List.getElem?_cons_zero] <;> rfl) (by kernel_rfl) (by kernel_rfl) (by kernel_rfl) (by exact fun _ _ _ h => h) (Or.inl ⟨by rfl, ?_⟩) hHeld ?_
  rotate_left
  · intro w hSw; (try dsimp only at hSw); go_simp; (try with_reducible rfl)
  (try simp only [Act.put, List.setIfInBounds_toArray, List.set_cons_zero, List.set_cons_succ])
  refine wpAnyH_take (i := 23) (v := ?_) (by simp only [List.getElem?_toArray, List.getElem?_cons_succ, List.getElem?_cons_zero] <;> rfl) (by kernel_rfl) (by kernel_rfl) (by kernel_rfl) (by exact fun _ _ _ h => h) (Or.inl ⟨by rfl, ?_⟩) hHeld ?_
  rotate_left
  · intro w hSw; (try dsimp only at hSw); go_simp; (try with_reducible rfl)
  (try simp only [Act.put, List.setIfInBounds_toArray, List.set_cons_zero, List.set_cons_succ])
  refine wpAnyH_take (i := 24) (v := ?_) (by simp only [List.getElem?_toArray, List.getElem?_cons_succ, List.getElem?_cons_zero] <;> rfl) (by kernel_rfl) (by kernel_rfl) (by kernel_rfl) (by exact fun _ _ _ h => h) (Or.inl ⟨by rfl, ?_⟩) hHeld ?_
  rotate_left
  · intro w hSw; (try dsimp only at hSw); go_simp; (try with_reducible rfl)
  (try simp only [Act.put, List.setIfInBounds_toArray, List.set_cons_zero, List.set_cons_succ])
  refine wpAnyH_take (i := 25) (v := ?_) (by simp only [List.getElem?_toArray, List.getElem?_cons_succ, List.getElem?_cons_zero] <;> rfl) (by kernel_rfl) (by kernel_rfl) (by kernel_rfl) (by exact fun _ _ _ h => h) (Or.inl ⟨by rfl, ?_⟩) hHeld ?_
  rotate_left
  · intro w hSw; (try dsimp only at hSw); go_simp; (try with_reducible rfl)
  (try simp only [Act.put, List.setIfInBounds_toArray, List.set_cons_zero, List.set_cons_succ])
  refine wpAnyH_take (i := 26) (v := ?_) (by simp only [List.getElem?_toArray, List.getElem?_cons_succ, List.getElem?_cons_zero] <;> rfl) (by kernel_rfl) (by kernel_rfl) (by kernel_rfl) (by exact fun _ _ _ h => h) (Or.inl ⟨by rfl, ?_⟩) hHeld ?_
  rotate_left
  · intro w hSw; (try dsimp only at hSw); go_simp; (try with_reducible rfl)
  (try simp only [Act.put, List.setIfInBounds_toArray, List.set_cons_zero, List.set_cons_succ])
  refine wpAnyH_take (i := 27) (v := ?_) (by simp only [List.getElem?_toArray, List.getElem?_cons_succ, List.getElem?_cons_zero] <;> rfl) (by kernel_rfl) (by kernel_rfl) (by kernel_rfl) (by exact fun _ _ _ h => h) (Or.inl ⟨by rfl, ?_⟩) hHeld ?_
  rotate_left
  · intro w hSw; (try dsimp only at hSw); go_simp; (try with_reducible rfl)
  (try simp only [Act.put, List.setIfInBounds_toArray, List.set_cons_zero, List.set_cons_succ])
  refine wpAnyH_take (i := 28) (v := ?_) (by simp only [List.getElem?_toArray, List.getElem?_cons_succ, List.getElem?_cons_zero] <;> rfl) (by kernel_rfl) (by kernel_rfl) (by kernel_rfl) (by exact fun _ _ _ h => h) (Or.inl ⟨by rfl, ?_⟩) hHeld ?_
  rotate_left
  · intro w hSw; (try dsimp only at hSw); go_simp; (try with_reducible rfl)
  (try simp only [Act.put, List.setIfInBounds_toArray, List.set_cons_zero, List.set_cons_succ])
  refine wpAnyH_take (i := 29) (v := ?_) (by simp only [List.getElem?_toArray, List.getElem?_cons_succ, List.getElem?_cons_zero] <;> rfl) (by kernel_rfl) (by kernel_rfl) (by kernel_rfl) (by exact fun _ _ _ h => h) (Or.inl ⟨by rfl, ?_⟩) hHeld ?_
  rotate_left
  · intro w hSw; (try dsimp only at hSw); go_simp; (try with_reducible rfl)
  (try simp only [Act.put, List.setIfInBounds_toArray, List.set_cons_zero, List.set_cons_succ])
  refine wpAnyH_take (i := 31) (v := ?_) (by simp only [List.getElem?_toArray, List.getElem?_cons_succ, List.getElem?_cons_zero] <;> rfl) (by kernel_rfl) (by kernel_rfl) (by kernel_rfl) (by exact fun _ _ _ h => h) (Or.inl ⟨by rfl, ?_⟩) hHeld ?_
  rotate_left
  · intro w hSw; (try dsimp only at hSw); go_simp; (try with_reducible rfl)
  (try simp only [Act.put, List.setIfInBounds_toArray, List.set_cons_zero, List.set_cons_succ])
  refine wpAnyH_ready (rs := [30]) (by kernel_rfl) (by simp) ?_
  refine AllReadyH.cons (by simp only [List.getElem?_toArray, List.getElem?_cons_succ, List.getElem?_cons_zero] <;> rfl) (fun K hK => ?_) AllReadyH.nil
  go_simp
  with_reducible refine (c4 _).mono ?_
  rintro e w11 ⟨rfl, hb⟩
  have b11 : Below (w9.drewN k).heap.size (w9.drewN k) w11 := hb
  replace Pa := Pa.below b11
  replace Pb := Pb.below b11
  replace Ps := Ps.below b11
  replace Pd := Pd.below b11
  replace Pt := Pt.below b11
  replace Pe := Pe.below b11
  replace Pu := Pu.below b11
  replace Ix := Ix.below b11
  replace Iy := Iy.below b11
  replace Im := Im.below b11
  replace In := In.below b11
  replace B := below_of B b11 B.size
  have sw11 := b11.size
  go_wp2_with fail
  refine hK.out _ _ ?_ (fun hHeld => ?_)
  · (try dsimp only); exact ⟨Pa.1, Pa.2.1, Pb.1, Pb.2.1, Ps.1, Ps.2.1, Pd.1, Pd.2.1, Pt.1, Pt.2.1, Pe.1, Pe.2.1, Pu.1, Pu.2.1⟩
  clear hK K
  (try simp only [Act.put, List.setIfInBounds_toArray, List.set_cons_zero, List.set_cons_succ])
  refine wpAnyH_take (i := 32) (v := ?_) (by simp only [List.getElem?_toArray, List.getElem?_cons_succ, List.getElem?_cons_zero] <;> rfl) (by kernel_rfl) (by kernel_rfl) (by kernel_rfl) (by exact fun _ _ _ h => h) (Or.inl ⟨by rfl, ?_⟩) hHeld ?_
  rotate_left
  · intro w hSw; (try dsimp only at hSw); go_simp; (try with_reducible rfl)
  (try simp only [Act.put, List.setIfInBounds_toArray, List.set_cons_zero, List.set_cons_succ])
  refine wpAnyH_take (i := 33) (v := ?_) (by simp only [List.getElem?_toArray, List.getElem?_cons_succ, List.getElem?_cons_zero] <;> rfl) (by kernel_rfl) (by kernel_rfl) (by kernel_rfl) (by exact fun _ _ _ h => h) (Or.inl ⟨by rfl, ?_⟩) hHeld ?_
  rotate_left
  · intro w hSw; (try dsimp only at hSw); go_simp; (try with_reducible rfl)
  (try simp only [Act.put, List.setIfInBounds_toArray, List.set_cons_zero, List.set_cons_succ])
  refine wpAnyH_take (i := 34) (v := ?_) (by simp only [List.getElem?_toArray, List.getElem?_cons_succ, List.getElem?_cons_zero] <;> rfl) (by kernel_rfl) (by kernel_rfl) (by kernel_rfl) (by exact fun _ _ _ h => h) (Or.inl ⟨by rfl, ?_⟩) hHeld ?_
  rotate_left
  · intro w hSw; (try dsimp only at hSw); go_simp; (try with_reducible rfl)
  (try simp only [Act.put, List.setIfInBounds_toArray, List.set_cons_zero, List.set_cons_succ])
  refine wpAnyH_done (by kernel_rfl) ?_ _
  go_wp2
  go_ret
  exact ⟨by simp, B⟩
end Go.Proofs.Ytfopcipapphogaa
