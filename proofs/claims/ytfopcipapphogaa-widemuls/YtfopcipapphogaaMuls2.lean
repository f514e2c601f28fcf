/- WideMuls of package weirhouselaw: its walk, where the second word is nothing. -/
import Derived.Test.YtfopcipapphogaaMuls1
import Derived.Test.YtfopcipapphogaaWide2
namespace Go.Proofs.Ytfopcipapphogaa
open Go.RowKit

set_option maxRecDepth 100000 in
set_option maxHeartbeats 4000000 in
theorem muls_2 (ah al b : Int) (ph pl : Int) (o1 : Bool)
    (A qh ql q r : Int) (o3 : Bool)
    (k1 : max b 0 = b) (k2 : 0 < b)
    (cB : ∀ w, Calls Try.prog 21 #[.int .u64 b] w (NewInt w b))
    (cC : ∀ w, Calls Try.prog 21 #[.int .u64 0] w (NewInt w 0))
    (v1 : Fits ((b : Int) * 0).natAbs) (wB : (b : Int).natAbs < 18446744073709551616) (wC : (0 : Int).natAbs < 18446744073709551616)
    (eG : ((Nat.gcd (b : Int).natAbs (0 : Int).natAbs : Nat) : Int) = b)
    (c1 : ∀ g w, IntAt w g ((b : Int) * 0) → Calls Try.prog 14 #[.pointer (some ⟨g, 0, none⟩)] w fun e w' => e = .returned (.tuple #[.agg #[.int .u64 ph, .int .u64 pl], .bool o1]) ∧ Below w.heap.size w w')
    (c2 : ∀ w, Calls Try.prog 24 #[.int .u64 b, .int .u64 0] w fun e w' => e = .returned (.agg #[.int .u64 ph, .int .u64 pl]) ∧ Below w.heap.size w w')
    (c3 : ∀ w, Calls Try.prog 25 #[.int .u64 b, .int .u64 0] w fun e w' => e = .returned (.int .u64 b) ∧ ∃ n, w' = w.drewN n)
    (c4 : ∀ g w, IntAt w g (b) → Calls Try.prog 26 #[.pointer (some ⟨g, 0, none⟩)] w fun e w' => e = .returned (.int .u64 b) ∧ w = w')
    (c5 : ∀ w, Calls Try.prog 27 #[.int .u64 b, .int .u64 0] w fun e w' => e = .returned (.agg #[.int .u64 0, .int .u64 0]) ∧ Below w.heap.size w w')
    (d1 : ∀ w, Calls Try.prog 28 #[.agg #[.int .u64 ah, .int .u64 al], .int .u64 b] w fun e w' => e = .returned (.tuple #[.agg #[.int .u64 qh, .int .u64 ql], .int .u64 r, .int .i64 0]) ∧ Below w.heap.size w w')
    (d2 : ∀ w, Calls Try.prog 11 #[.agg #[.int .u64 ah, .int .u64 al]] w (NewInt w A))
    (d3 : ∀ gz gx gy gm w, Room w gz → Room w gm → IntAt w gx A → IntAt w gy b → gx ≠ gm → gz ≠ gm → Calls Try.prog 29 #[.pointer (some ⟨gz, 0, none⟩), .pointer (some ⟨gx, 0, none⟩), .pointer (some ⟨gy, 0, none⟩), .pointer (some ⟨gm, 0, none⟩)] w fun e w' => e = .returned (.tuple #[.pointer (some ⟨gz, 0, none⟩), .pointer (some ⟨gm, 0, none⟩)]) ∧ Kept2 w w' gz gm ∧ IntAt w' gz q ∧ IntAt w' gm r)
    (d4 : ∀ g w, IntAt w g (q) → Calls Try.prog 14 #[.pointer (some ⟨g, 0, none⟩)] w fun e w' => e = .returned (.tuple #[.agg #[.int .u64 qh, .int .u64 ql], .bool o3]) ∧ Below w.heap.size w w')
    (d5 : ∀ g w, IntAt w g (r) → Calls Try.prog 26 #[.pointer (some ⟨g, 0, none⟩)] w fun e w' => e = .returned (.int .u64 r) ∧ w = w') (w : World) :
    Calls Try.prog 4 #[.agg #[.int .u64 ah, .int .u64 al], .int .u64 b, .int .u64 0] w fun e w' => e = .returned (.bool true) ∧ Below w.heap.size w w' := by
  have B := Below.refl w.heap.size w
  have hs0 := B.size
  obtain ⟨V1, hV1⟩ : ∃ V, w.alloc (.cells #[.int .u64 (ah), .int .u64 (al)] 24) = V := ⟨_, rfl⟩
  have AV1 : Below w.heap.size w V1 := hV1 ▸ (Below.refl _ _).alloc (Nat.le_refl _) _
  have zV1 : w.heap.size + 1 = V1.heap.size := by rw [← hV1]; simp
  have Pa : At V1 w.heap.size (ah) (al) := hV1 ▸ At.new w _ _
  replace B := below_of B AV1 B.size
  have sV1 := B.size
  have kb : (b == 0) = false := by simp; omega
  go_enter Try.func4, Try.ntmps4
  have S1Pa := Pa
  have S1B := B
  obtain ⟨V2, hV2⟩ : ∃ V, V1.alloc (.cells #[.bool false, .slice none 0 0] 32) = V := ⟨_, rfl⟩
  have AV2 : Below V1.heap.size V1 V2 := hV2 ▸ (Below.refl _ _).alloc (Nat.le_refl _) _
  have zV2 : V1.heap.size + 1 = V2.heap.size := by rw [← hV2]; simp
  replace Pa := Pa.below AV2
  have Rm : Room V2 V1.heap.size := hV2 ▸ room_new V1
  replace B := below_of B AV2 B.size
  have sV2 := B.size
  obtain ⟨pa, qa, ra, fa, ga⟩ := id Pa
  go_wp2_with fail
  try rw [hV1]
  with_reducible refine (cB _).mono ?_
  rintro e w1 ⟨gx, hgx, rfl, hb, Ix⟩
  have b1 : Below V2.heap.size V2 w1 := hb
  replace Pa := Pa.below b1
  replace Rm := Rm.below b1
  replace B := below_of B b1 B.size
  have sw1 := b1.size
  have lx := Ix.room.lt
  obtain ⟨pa, qa, ra, fa, ga⟩ := id Pa
  go_wp2_with fail
  with_reducible refine (cC _).mono ?_
  rintro e w2 ⟨gy, hgy, rfl, hb, Iy⟩
  have b2 : Below w1.heap.size w1 w2 := hb
  replace Pa := Pa.below b2
  replace Ix := Ix.below b2
  replace Rm := Rm.below b2
  replace B := below_of B b2 B.size
  have sw2 := b2.size
  have ly := Iy.room.lt
  obtain ⟨pa, qa, ra, fa, ga⟩ := id Pa
  go_wp2_with fail
  have GB : Below V1.heap.size V1 w2 := (below_of (below_of (below_of (Below.refl V1.heap.size V1) AV2 (by omega)) b1 (by omega)) b2 (by omega))
  have BG : Below V1.heap.size V1 w2 := GB
  with_reducible refine (mul_int V1.heap.size gx gy _ _ _ Rm Ix Iy v1).mono ?_
  rintro e w3x ⟨rfl, gr, Im⟩
  have K1 : Below V1.heap.size V1 w3x := BG.grown gr BG.size (fun k hk => by injection hk with hk; omega)
  replace Pa := S1Pa.below K1
  replace B := below_of S1B K1 S1B.size
  have sK1 := K1.size
  clear BG gr GB
  have lm := Im.room.lt
  obtain ⟨pa, qa, ra, fa, ga⟩ := id Pa
  go_wp2_with fail
  with_reducible refine (c1 _ _ Im).mono ?_
  rintro e w4 ⟨rfl, hb⟩
  have b4 : Below w3x.heap.size w3x w4 := hb
  replace Pa := Pa.below b4
  replace Im := Im.below b4
  replace B := below_of B b4 B.size
  have sw4 := b4.size
  obtain ⟨V3, hV3⟩ : ∃ V, w4.alloc (.cells #[.int .u64 (ph), .int .u64 (pl)] 24) = V := ⟨_, rfl⟩
  have AV3 : Below w4.heap.size w4 V3 := hV3 ▸ (Below.refl _ _).alloc (Nat.le_refl _) _
  have zV3 : w4.heap.size + 1 = V3.heap.size := by rw [← hV3]; simp
  replace Pa := Pa.below AV3
  replace Im := Im.below AV3
  have Pp : At V3 w4.heap.size (ph) (pl) := hV3 ▸ At.new w4 _ _
  replace B := below_of B AV3 B.size
  have sV3 := B.size
  have S2Pa := Pa
  have S2Pp := Pp
  have S2Im := Im
  have S2B := B
  obtain ⟨V4, hV4⟩ : ∃ V, V3.alloc (.cells #[.bool false, .slice none 0 0] 32) = V := ⟨_, rfl⟩
  have AV4 : Below V3.heap.size V3 V4 := hV4 ▸ (Below.refl _ _).alloc (Nat.le_refl _) _
  have zV4 : V3.heap.size + 1 = V4.heap.size := by rw [← hV4]; simp
  replace Pa := Pa.below AV4
  replace Pp := Pp.below AV4
  replace Im := Im.below AV4
  have Rg : Room V4 V3.heap.size := hV4 ▸ room_new V3
  replace B := below_of B AV4 B.size
  have sV4 := B.size
  obtain ⟨pa, qa, ra, fa, ga⟩ := id Pa
  obtain ⟨pp, qp, rp, fp, gp⟩ := id Pp
  go_wp2_with fail
  try rw [hV3]
  with_reducible refine (cB _).mono ?_
  rintro e w5 ⟨gx, hgx, rfl, hb, Ix⟩
  have b5 : Below V4.heap.size V4 w5 := hb
  replace Pa := Pa.below b5
  replace Pp := Pp.below b5
  replace Im := Im.below b5
  replace Rg := Rg.below b5
  replace B := below_of B b5 B.size
  have sw5 := b5.size
  have lx := Ix.room.lt
  obtain ⟨pa, qa, ra, fa, ga⟩ := id Pa
  obtain ⟨pp, qp, rp, fp, gp⟩ := id Pp
  go_wp2_with fail
  with_reducible refine (cC _).mono ?_
  rintro e w6 ⟨gy, hgy, rfl, hb, Iy⟩
  have b6 : Below w5.heap.size w5 w6 := hb
  replace Pa := Pa.below b6
  replace Pp := Pp.below b6
  replace Im := Im.below b6
  replace Ix := Ix.below b6
  replace Rg := Rg.below b6
  replace B := below_of B b6 B.size
  have sw6 := b6.size
  have ly := Iy.room.lt
  obtain ⟨pa, qa, ra, fa, ga⟩ := id Pa
  obtain ⟨pp, qp, rp, fp, gp⟩ := id Pp
  go_wp2_with fail
  have GB : Below V3.heap.size V3 w6 := (below_of (below_of (below_of (Below.refl V3.heap.size V3) AV4 (by omega)) b5 (by omega)) b6 (by omega))
  have BG : Below V3.heap.size V3 w6 := GB
  with_reducible refine (gcd_small V3.heap.size gx gy _ _ _ Rg Ix Iy wB wC).mono ?_
  rintro e w7x ⟨rfl, gr, Ig⟩
  have K2 : Below V3.heap.size V3 w7x := BG.grown gr BG.size (fun k hk => by injection hk with hk; omega)
  replace Pa := S2Pa.below K2
  replace Pp := S2Pp.below K2
  replace Im := S2Im.below K2
  replace B := below_of S2B K2 S2B.size
  have sK2 := K2.size
  clear BG gr GB
  have lg := Ig.room.lt
  rw [eG] at Ig
  obtain ⟨pa, qa, ra, fa, ga⟩ := id Pa
  obtain ⟨pp, qp, rp, fp, gp⟩ := id Pp
  go_wp2_with fail
  with_reducible refine (cB _).mono ?_
  rintro e w8 ⟨gh, hgh, rfl, hb, Ih⟩
  have b8 : Below w7x.heap.size w7x w8 := hb
  replace Pa := Pa.below b8
  replace Pp := Pp.below b8
  replace Im := Im.below b8
  replace Ig := Ig.below b8
  replace B := below_of B b8 B.size
  have sw8 := b8.size
  have lh := Ih.room.lt
  obtain ⟨V5, hV5⟩ : ∃ V, w8.alloc (.cells #[.int .u64 (0), .int .u64 (0)] 24) = V := ⟨_, rfl⟩
  have AV5 : Below w8.heap.size w8 V5 := hV5 ▸ (Below.refl _ _).alloc (Nat.le_refl _) _
  have zV5 : w8.heap.size + 1 = V5.heap.size := by rw [← hV5]; simp
  replace Pa := Pa.below AV5
  replace Pp := Pp.below AV5
  replace Im := Im.below AV5
  replace Ig := Ig.below AV5
  replace Ih := Ih.below AV5
  have Pu : At V5 w8.heap.size (0) (0) := hV5 ▸ At.new w8 _ _
  replace B := below_of B AV5 B.size
  have sV5 := B.size
  obtain ⟨pa, qa, ra, fa, ga⟩ := id Pa
  obtain ⟨pp, qp, rp, fp, gp⟩ := id Pp
  obtain ⟨pu, qu, ru, fu, gu⟩ := id Pu
  go_wp2_with fail
  try rw [hV5]
  obtain ⟨U, hU⟩ : ∃ V, V5.drew = V := ⟨_, rfl⟩
  have DU : Below V5.heap.size V5 U := hU ▸ below_drewN (Below.refl _ _) 1
  replace Pa := Pa.below DU
  replace Pp := Pp.below DU
  replace Pu := Pu.below DU
  replace Im := Im.below DU
  replace Ig := Ig.below DU
  replace Ih := Ih.below DU
  replace B := below_of B DU B.size
  refine wp_region_held_drew (S := (fun w' => w'.cell? ⟨w4.heap.size, 0, none⟩ = some (.int .u64 ph) ∧ w'.cell? ⟨w4.heap.size, 1, none⟩ = some (.int .u64 pl) ∧ w'.cell? ⟨w8.heap.size, 0, none⟩ = some (.int .u64 0) ∧ w'.cell? ⟨w8.heap.size, 1, none⟩ = some (.int .u64 0))) (by kernel_rfl) (hU ▸ ⟨Pp.1, Pp.2.1, Pu.1, Pu.2.1⟩) (fun hHeld => ?_)
  rw [hU] at hHeld ⊢
  refine wpAnyH_take (i := 0) (v := ?_) (by simp only [List.getElem?_toArray, List.getElem?_cons_zero] <;> rfl) (by kernel_rfl) (by kernel_rfl) (by kernel_rfl) (by exact fun _ _ _ h => h) (Or.inl ⟨by rfl, ?_⟩) hHeld ?_
  rotate_left
  · intro w hSw; (try dsimp only at hSw); go_simp; (try with_reducible rfl)
  (try simp only [Act.put, List.setIfInBounds_toArray, List.set_cons_zero, List.set_cons_succ])
  refine wpAnyH_take (i := 1) (v := ?_) (by simp only [List.getElem?_toArray, List.getElem?_cons_succ, List.getElem?_cons_zero] <;> rfl) (by kernel_rfl) (by kernel_rfl) (by kernel_rfl) (by exact fun _ _ _ h => h) (Or.inl ⟨by rfl, ?_⟩) hHeld ?_
  rotate_left
  · intro w hSw; (try dsimp only at hSw); go_simp; (try with_reducible rfl)
  (try simp only [Act.put, List.setIfInBounds_toArray, List.set_cons_zero, List.set_cons_succ])
  refine wpAnyH_take (i := 3) (v := ?_) (by simp only [List.getElem?_toArray, List.getElem?_cons_succ, List.getElem?_cons_zero] <;> rfl) (by kernel_rfl) (by kernel_rfl) (by kernel_rfl) (by exact fun _ _ _ h => h) (Or.inl ⟨by rfl, ?_⟩) hHeld ?_
  rotate_left
  · intro w hSw; (try dsimp only at hSw); go_simp; (try with_reducible rfl)
  (try simp only [Act.put, List.setIfInBounds_toArray, List.set_cons_zero, List.set_cons_succ])
  refine wpAnyH_ready (rs := [2]) (by kernel_rfl) (by simp) ?_
  refine AllReadyH.cons (by simp only [List.getElem?_toArray, List.getElem?_cons_succ, List.getElem?_cons_zero] <;> rfl) (fun K hK => ?_) AllReadyH.nil
  go_simp
  with_reducible refine (c2 _).mono ?_
  rintro e w9 ⟨rfl, hb⟩
  have b9 : Below U.heap.size U w9 := hb
  replace Pa := Pa.below b9
  replace Pp := Pp.below b9
  replace Pu := Pu.below b9
  replace Im := Im.below b9
  replace Ig := Ig.below b9
  replace Ih := Ih.below b9
  replace B := below_of B b9 B.size
  have sw9 := b9.size
  go_wp2_with fail
  refine hK.out _ _ ?_ (fun hHeld => ?_)
  · (try dsimp only); exact ⟨Pp.1, Pp.2.1, Pu.1, Pu.2.1⟩
  clear hK K
  (try simp only [Act.put, List.setIfInBounds_toArray, List.set_cons_zero, List.set_cons_succ])
  refine wpAnyH_take (i := 4) (v := ?_) (by simp only [List.getElem?_toArray, List.getElem?_cons_succ, List.getElem?_cons_zero] <;> rfl) (by kernel_rfl) (by kernel_rfl) (by kernel_rfl) (by exact fun _ _ _ h => h) (Or.inl ⟨by rfl, ?_⟩) hHeld ?_
  rotate_left
  · intro w hSw; (try dsimp only at hSw); go_simp; (try with_reducible rfl)
  (try simp only [Act.put, List.setIfInBounds_toArray, List.set_cons_zero, List.set_cons_succ])
  refine wpAnyH_take (i := 5) (v := ?_) (by simp only [List.getElem?_toArray, List.getElem?_cons_succ, List.getElem?_cons_zero] <;> rfl) (by kernel_rfl) (by kernel_rfl) (by kernel_rfl) (by exact fun _ _ _ h => h) (Or.inl ⟨by rfl, ?_⟩) hHeld ?_
  rotate_left
  · intro w hSw; (try dsimp only at hSw); go_simp; (try with_reducible rfl)
  (try simp only [Act.put, List.setIfInBounds_toArray, List.set_cons_zero, List.set_cons_succ])
  refine wpAnyH_take (i := 6) (v := ?_) (by simp only [List.getElem?_toArray, List.getElem?_cons_succ, List.getElem?_cons_zero] <;> rfl) (by kernel_rfl) (by kernel_rfl) (by kernel_rfl) (by exact fun _ _ _ h => h) (Or.inl ⟨by rfl, ?_⟩) hHeld ?_
  rotate_left
  · intro w hSw; (try dsimp only at hSw); go_simp; (try with_reducible rfl)
  (try simp only [Act.put, List.setIfInBounds_toArray, List.set_cons_zero, List.set_cons_succ])
  refine wpAnyH_take (i := 7) (v := ?_) (by simp only [List.getElem?_toArray, List.getElem?_cons_succ, List.getElem?_cons_zero] <;> rfl) (by kernel_rfl) (by kernel_rfl) (by kernel_rfl) (by exact fun _ _ _ h => h) (Or.inl ⟨by rfl, ?_⟩) hHeld ?_
  rotate_left
  · intro w hSw; (try dsimp only at hSw); go_simp; (try with_reducible rfl)
  (try simp only [Act.put, List.setIfInBounds_toArray, List.set_cons_zero, List.set_cons_succ])
  refine wpAnyH_take (i := 9) (v := ?_) (by simp only [List.getElem?_toArray, List.getElem?_cons_succ, List.getElem?_cons_zero] <;> rfl) (by kernel_rfl) (by kernel_rfl) (by kernel_rfl) (by exact fun _ _ _ h => h) (Or.inl ⟨by rfl, ?_⟩) hHeld ?_
  rotate_left
  · intro w hSw; (try dsimp only at hSw); go_simp; (try with_reducible rfl)
  (try simp only [Act.put, List.setIfInBounds_toArray, List.set_cons_zero, List.set_cons_succ])
  refine wpAnyH_ready (rs := [8]) (by kernel_rfl) (by simp) ?_
  refine AllReadyH.cons (by simp only [List.getElem?_toArray, List.getElem?_cons_succ, List.getElem?_cons_zero] <;> rfl) (fun K hK => ?_) AllReadyH.nil
  go_simp
  with_reducible refine (c3 _).mono ?_
  rintro e w10 ⟨rfl, n8, hn8⟩
  have b10 : Below w9.heap.size w9 w10 := hn8 ▸ below_drewN (Below.refl _ _) n8
  clear hn8
  replace Pa := Pa.below b10
  replace Pp := Pp.below b10
  replace Pu := Pu.below b10
  replace Im := Im.below b10
  replace Ig := Ig.below b10
  replace Ih := Ih.below b10
  replace B := below_of B b10 B.size
  have sw10 := b10.size
  go_wp2_with fail
  refine hK.out _ _ ?_ (fun hHeld => ?_)
  · (try dsimp only); exact ⟨Pp.1, Pp.2.1, Pu.1, Pu.2.1⟩
  clear hK K
  (try simp only [Act.put, List.setIfInBounds_toArray, List.set_cons_zero, List.set_cons_succ])
  refine wpAnyH_ready (rs := [10]) (by kernel_rfl) (by simp) ?_
  refine AllReadyH.cons (by simp only [List.getElem?_toArray, List.getElem?_cons_succ, List.getElem?_cons_zero] <;> rfl) (fun K hK => ?_) AllReadyH.nil
  go_simp
  with_reducible refine (c4 _ _ Ih).mono ?_
  rintro e wq ⟨rfl, hq⟩
  subst hq
  go_wp2_with fail
  refine hK.out _ _ ?_ (fun hHeld => ?_)
  · (try dsimp only); exact ⟨Pp.1, Pp.2.1, Pu.1, Pu.2.1⟩
  clear hK K
  (try simp only [Act.put, List.setIfInBounds_toArray, List.set_cons_zero, List.set_cons_succ])
  refine wpAnyH_take (i := 11) (v := ?_) (by simp only [List.getElem?_toArray, List.getElem?_cons_succ, List.getElem?_cons_zero] <;> rfl) (by kernel_rfl) (by kernel_rfl) (by kernel_rfl) (by exact fun _ _ _ h => h) (Or.inl ⟨by rfl, ?_⟩) hHeld ?_
  rotate_left
  · intro w hSw; (try dsimp only at hSw); go_simp; (try with_reducible rfl)
  (try simp only [Act.put, List.setIfInBounds_toArray, List.set_cons_zero, List.set_cons_succ])
  refine wpAnyH_take (i := 12) (v := ?_) (by simp only [List.getElem?_toArray, List.getElem?_cons_succ, List.getElem?_cons_zero] <;> rfl) (by kernel_rfl) (by kernel_rfl) (by kernel_rfl) (by exact fun _ _ _ h => h) (Or.inl ⟨by rfl, ?_⟩) hHeld ?_
  rotate_left
  · intro w hSw; (try dsimp only at hSw); go_simp; (try with_reducible rfl)
  (try simp only [Act.put, List.setIfInBounds_toArray, List.set_cons_zero, List.set_cons_succ])
  refine wpAnyH_take (i := 13) (v := ?_) (by simp only [List.getElem?_toArray, List.getElem?_cons_succ, List.getElem?_cons_zero] <;> rfl) (by kernel_rfl) (by kernel_rfl) (by kernel_rfl) (by exact fun _ _ _ h => h) (Or.inl ⟨by rfl, ?_⟩) hHeld ?_
  rotate_left
  · intro w hSw; (try dsimp only at hSw); go_simp; (try with_reducible rfl)
  (try simp only [Act.put, List.setIfInBounds_toArray, List.set_cons_zero, List.set_cons_succ])
  refine wpAnyH_take (i := 14) (v := ?_) (by simp only [List.getElem?_toArray, List.getElem?_cons_succ, List.getElem?_cons_zero] <;> rfl) (by kernel_rfl) (by kernel_rfl) (by kernel_rfl) (by exact fun _ _ _ h => h) (Or.inl ⟨by rfl, ?_⟩) hHeld ?_
  rotate_left
  · intro w hSw; (try dsimp only at hSw); go_simp; (try with_reducible rfl)
  (try simp only [Act.put, List.setIfInBounds_toArray, List.set_cons_zero, List.set_cons_succ])
  refine wpAnyH_take (i := 15) (v := ?_) (by simp only [List.getElem?_toArray, List.getElem?_cons_succ, List.getElem?_cons_zero] <;> rfl) (by kernel_rfl) (by kernel_rfl) (by kernel_rfl) (by exact fun _ _ _ h => h) (Or.inl ⟨by rfl, ?_⟩) hHeld ?_
  rotate_left
  · intro w hSw; (try dsimp only at hSw); go_simp; (try with_reducible rfl)
  (try simp only [Act.put, List.setIfInBounds_toArray, List.set_cons_zero, List.set_cons_succ])
  refine wpAnyH_take (i := 17) (v := ?_) (by simp only [List.getElem?_toArray, List.getElem?_cons_succ, List.getElem?_cons_zero] <;> rfl) (by kernel_rfl) (by kernel_rfl) (by kernel_rfl) (by exact fun _ _ _ h => h) (Or.inl ⟨by rfl, ?_⟩) hHeld ?_
  rotate_left
  · intro w hSw; (try dsimp only at hSw); go_simp; (try with_reducible rfl)
  (try simp only [Act.put, List.setIfInBounds_toArray, List.set_cons_zero, List.set_cons_succ])
  refine wpAnyH_ready (rs := [16]) (by kernel_rfl) (by simp) ?_
  refine AllReadyH.cons (by simp only [List.getElem?_toArray, List.getElem?_cons_succ, List.getElem?_cons_zero] <;> rfl) (fun K hK => ?_) AllReadyH.nil
  go_simp
  with_reducible refine (c5 _).mono ?_
  rintro e w11 ⟨rfl, hb⟩
  have b11 : Below w10.heap.size w10 w11 := hb
  replace Pa := Pa.below b11
  replace Pp := Pp.below b11
  replace Pu := Pu.below b11
  replace Im := Im.below b11
  replace Ig := Ig.below b11
  replace Ih := Ih.below b11
  replace B := below_of B b11 B.size
  have sw11 := b11.size
  go_wp2_with fail
  refine hK.out _ _ ?_ (fun hHeld => ?_)
  · (try dsimp only); exact ⟨Pp.1, Pp.2.1, Pu.1, Pu.2.1⟩
  clear hK K
  (try simp only [Act.put, List.setIfInBounds_toArray, List.set_cons_zero, List.set_cons_succ])
  refine wpAnyH_take (i := 18) (v := ?_) (by simp only [List.getElem?_toArray, List.getElem?_cons_succ, List.getElem?_cons_zero] <;> rfl) (by kernel_rfl) (by kernel_rfl) (by kernel_rfl) (by exact fun _ _ _ h => h) (Or.inl ⟨by rfl, ?_⟩) hHeld ?_
  rotate_left
  · intro w hSw; (try dsimp only at hSw); go_simp; (try with_reducible rfl)
  (try simp only [Act.put, List.setIfInBounds_toArray, List.set_cons_zero, List.set_cons_succ])
  refine wpAnyH_take (i := 19) (v := ?_) (by simp only [List.getElem?_toArray, List.getElem?_cons_succ, List.getElem?_cons_zero] <;> rfl) (by kernel_rfl) (by kernel_rfl) (by kernel_rfl) (by exact fun _ _ _ h => h) (Or.inl ⟨by rfl, ?_⟩) hHeld ?_
  rotate_left
  · intro w hSw; (try dsimp only at hSw); go_simp; (try with_reducible rfl)
  (try simp only [Act.put, List.setIfInBounds_toArray, List.set_cons_zero, List.set_cons_succ])
  refine wpAnyH_done (by kernel_rfl) ?_ _
  obtain ⟨pa, qa, ra, fa, ga⟩ := id Pa
  obtain ⟨pp, qp, rp, fp, gp⟩ := id Pp
  obtain ⟨pu, qu, ru, fu, gu⟩ := id Pu
  go_wp2_with fail
  with_reducible refine (d1 _).mono ?_
  rintro e w12 ⟨rfl, hb⟩
  have b12 : Below w11.heap.size w11 w12 := hb
  replace Pa := Pa.below b12
  replace Pp := Pp.below b12
  replace Pu := Pu.below b12
  replace Im := Im.below b12
  replace Ig := Ig.below b12
  replace Ih := Ih.below b12
  replace B := below_of B b12 B.size
  have sw12 := b12.size
  have sB := B.size
  obtain ⟨V6, hV6⟩ : ∃ V, w12.alloc (.cells #[.int .u64 (qh), .int .u64 (ql)] 24) = V := ⟨_, rfl⟩
  have AV6 : Below w12.heap.size w12 V6 := hV6 ▸ (Below.refl _ _).alloc (Nat.le_refl _) _
  have zV6 : w12.heap.size + 1 = V6.heap.size := by rw [← hV6]; simp
  replace Pa := Pa.below AV6
  replace Pp := Pp.below AV6
  replace Pu := Pu.below AV6
  replace Im := Im.below AV6
  replace Ig := Ig.below AV6
  replace Ih := Ih.below AV6
  have Pq : At V6 w12.heap.size (qh) (ql) := hV6 ▸ At.new w12 _ _
  replace B := below_of B AV6 B.size
  have sV6 := B.size
  obtain ⟨pa, qa, ra, fa, ga⟩ := id Pa
  obtain ⟨pp, qp, rp, fp, gp⟩ := id Pp
  obtain ⟨pu, qu, ru, fu, gu⟩ := id Pu
  obtain ⟨pq, qq, rq, fq, gq⟩ := id Pq
  have S3Pa := Pa
  have S3Pp := Pp
  have S3Pu := Pu
  have S3Pq := Pq
  have S3Im := Im
  have S3Ig := Ig
  have S3Ih := Ih
  have S3B := B
  obtain ⟨V7, hV7⟩ : ∃ V, V6.alloc (.cells #[.bool false, .slice none 0 0] 32) = V := ⟨_, rfl⟩
  have AV7 : Below V6.heap.size V6 V7 := hV7 ▸ (Below.refl _ _).alloc (Nat.le_refl _) _
  have zV7 : V6.heap.size + 1 = V7.heap.size := by rw [← hV7]; simp
  replace Pa := Pa.below AV7
  replace Pp := Pp.below AV7
  replace Pu := Pu.below AV7
  replace Pq := Pq.below AV7
  replace Im := Im.below AV7
  replace Ig := Ig.below AV7
  replace Ih := Ih.below AV7
  have Rz : Room V7 V6.heap.size := hV7 ▸ room_new V6
  replace B := below_of B AV7 B.size
  have sV7 := B.size
  obtain ⟨pa, qa, ra, fa, ga⟩ := id Pa
  obtain ⟨pp, qp, rp, fp, gp⟩ := id Pp
  obtain ⟨pu, qu, ru, fu, gu⟩ := id Pu
  obtain ⟨pq, qq, rq, fq, gq⟩ := id Pq
  go_wp2_with fail
  try rw [hV6]
  with_reducible refine (d2 _).mono ?_
  rintro e w13 ⟨gx, hgx, rfl, hb, Ix⟩
  have b13 : Below V7.heap.size V7 w13 := hb
  replace Pa := Pa.below b13
  replace Pp := Pp.below b13
  replace Pu := Pu.below b13
  replace Pq := Pq.below b13
  replace Im := Im.below b13
  replace Ig := Ig.below b13
  replace Ih := Ih.below b13
  replace Rz := Rz.below b13
  replace B := below_of B b13 B.size
  have sw13 := b13.size
  have lx := Ix.room.lt
  obtain ⟨pa, qa, ra, fa, ga⟩ := id Pa
  obtain ⟨pp, qp, rp, fp, gp⟩ := id Pp
  obtain ⟨pu, qu, ru, fu, gu⟩ := id Pu
  obtain ⟨pq, qq, rq, fq, gq⟩ := id Pq
  go_wp2_with fail
  with_reducible refine (cB _).mono ?_
  rintro e w14 ⟨gy, hgy, rfl, hb, Iy⟩
  have b14 : Below w13.heap.size w13 w14 := hb
  replace Pa := Pa.below b14
  replace Pp := Pp.below b14
  replace Pu := Pu.below b14
  replace Pq := Pq.below b14
  replace Im := Im.below b14
  replace Ig := Ig.below b14
  replace Ih := Ih.below b14
  replace Ix := Ix.below b14
  replace Rz := Rz.below b14
  replace B := below_of B b14 B.size
  have sw14 := b14.size
  have ly := Iy.room.lt
  obtain ⟨V8, hV8⟩ : ∃ V, w14.alloc (.cells #[.bool false, .slice none 0 0] 32) = V := ⟨_, rfl⟩
  have AV8 : Below w14.heap.size w14 V8 := hV8 ▸ (Below.refl _ _).alloc (Nat.le_refl _) _
  have zV8 : w14.heap.size + 1 = V8.heap.size := by rw [← hV8]; simp
  replace Pa := Pa.below AV8
  replace Pp := Pp.below AV8
  replace Pu := Pu.below AV8
  replace Pq := Pq.below AV8
  replace Im := Im.below AV8
  replace Ig := Ig.below AV8
  replace Ih := Ih.below AV8
  replace Ix := Ix.below AV8
  replace Iy := Iy.below AV8
  replace Rz := Rz.below AV8
  have Rr : Room V8 w14.heap.size := hV8 ▸ room_new w14
  replace B := below_of B AV8 B.size
  have sV8 := B.size
  obtain ⟨pa, qa, ra, fa, ga⟩ := id Pa
  obtain ⟨pp, qp, rp, fp, gp⟩ := id Pp
  obtain ⟨pu, qu, ru, fu, gu⟩ := id Pu
  obtain ⟨pq, qq, rq, fq, gq⟩ := id Pq
  go_wp2_with fail
  have GB : Below V6.heap.size V6 V8 := (below_of (below_of (below_of (below_of (Below.refl V6.heap.size V6) AV7 (by omega)) b13 (by omega)) b14 (by omega)) AV8 (by omega))
  with_reducible refine (d3 V6.heap.size gx gy w14.heap.size _ Rz Rr Ix Iy (by omega) (by omega)).mono ?_
  rintro e w15x ⟨rfl, k2, Iz, Ir⟩
  have K3 : Below V6.heap.size V6 w15x := below_kept2 GB k2 (Nat.le_refl _) (by omega)
  replace Pa := S3Pa.below K3
  replace Pp := S3Pp.below K3
  replace Pu := S3Pu.below K3
  replace Pq := S3Pq.below K3
  replace Im := S3Im.below K3
  replace Ig := S3Ig.below K3
  replace Ih := S3Ih.below K3
  replace B := below_of S3B K3 S3B.size
  have sK3 := K3.size
  have lz := Iz.room.lt
  have lr := Ir.room.lt
  obtain ⟨pa, qa, ra, fa, ga⟩ := id Pa
  obtain ⟨pp, qp, rp, fp, gp⟩ := id Pp
  obtain ⟨pu, qu, ru, fu, gu⟩ := id Pu
  obtain ⟨pq, qq, rq, fq, gq⟩ := id Pq
  go_wp2_with fail
  with_reducible refine (d4 _ _ Iz).mono ?_
  rintro e w16 ⟨rfl, hb⟩
  have b16 : Below w15x.heap.size w15x w16 := hb
  replace Pa := Pa.below b16
  replace Pp := Pp.below b16
  replace Pu := Pu.below b16
  replace Pq := Pq.below b16
  replace Im := Im.below b16
  replace Ig := Ig.below b16
  replace Ih := Ih.below b16
  replace Iz := Iz.below b16
  replace Ir := Ir.below b16
  replace B := below_of B b16 B.size
  have sw16 := b16.size
  obtain ⟨V9, hV9⟩ : ∃ V, w16.alloc (.cells #[.int .u64 (qh), .int .u64 (ql)] 24) = V := ⟨_, rfl⟩
  have AV9 : Below w16.heap.size w16 V9 := hV9 ▸ (Below.refl _ _).alloc (Nat.le_refl _) _
  have zV9 : w16.heap.size + 1 = V9.heap.size := by rw [← hV9]; simp
  replace Pa := Pa.below AV9
  replace Pp := Pp.below AV9
  replace Pu := Pu.below AV9
  replace Pq := Pq.below AV9
  replace Im := Im.below AV9
  replace Ig := Ig.below AV9
  replace Ih := Ih.below AV9
  replace Iz := Iz.below AV9
  replace Ir := Ir.below AV9
  have Pv : At V9 w16.heap.size (qh) (ql) := hV9 ▸ At.new w16 _ _
  replace B := below_of B AV9 B.size
  have sV9 := B.size
  obtain ⟨pa, qa, ra, fa, ga⟩ := id Pa
  obtain ⟨pp, qp, rp, fp, gp⟩ := id Pp
  obtain ⟨pu, qu, ru, fu, gu⟩ := id Pu
  obtain ⟨pq, qq, rq, fq, gq⟩ := id Pq
  obtain ⟨pv, qv, rv, fv, gv⟩ := id Pv
  go_wp2_with fail
  try rw [hV9]
  with_reducible refine (d5 _ _ Ir).mono ?_
  rintro e wq ⟨rfl, hq⟩
  subst hq
  go_wp2
  go_ret
  exact ⟨by simp, B⟩
end Go.Proofs.Ytfopcipapphogaa
