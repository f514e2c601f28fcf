/- FracRounds of package weirhouselaw: its walk, where the operand is not valid. -/
import Derived.Test.YtfopcipapphogaaSq1
import Derived.Test.YtfopcipapphogaaRat7
import Derived.Test.YtfopcipapphogaaFr3
namespace Go.Proofs.Ytfopcipapphogaa
open Go.RowKit

set_option maxRecDepth 100000 in
set_option maxHeartbeats 4000000 in
theorem frnd_no (an ad n r : Int) (h1 : ¬ FOk an ad)
    (c1 : ∀ w, Calls Try.prog 43 #[.int .u64 n] w fun e w' => e = .returned (.int .u64 r) ∧ w = w')
    (c2 : ∀ w, Calls Try.prog 21 #[.int .u64 n] w (NewInt w n))
    (c3 : ∀ gz gx w, Room w gz → IntAt w gx n → Calls Try.prog 44 #[.pointer (some ⟨gz, 0, none⟩), .pointer (some ⟨gx, 0, none⟩)] w fun e w' => e = .returned (.pointer (some ⟨gz, 0, none⟩)) ∧ w.grownBy w' (some gz) ∧ IntAt w' gz r)
    (c4 : ∀ g w, IntAt w g r → Calls Try.prog 26 #[.pointer (some ⟨g, 0, none⟩)] w fun e w' => e = .returned (.int .u64 r) ∧ w = w') (w : World) :
    Calls Try.prog 6 #[.agg #[.int .i64 an, .int .i64 ad], .int .u64 n] w fun e w' => e = .returned (.bool true) ∧ Below w.heap.size w w' := by
  have B := Below.refl w.heap.size w
  have hs0 := B.size
  obtain ⟨V1, hV1⟩ : ∃ V, w.alloc (.cells #[.int .i64 (an), .int .i64 (ad)] 50) = V := ⟨_, rfl⟩
  have AV1 : Below w.heap.size w V1 := hV1 ▸ (Below.refl _ _).alloc (Nat.le_refl _) _
  have zV1 : w.heap.size + 1 = V1.heap.size := by rw [← hV1]; simp
  have Pa : FAt V1 w.heap.size (an) (ad) := hV1 ▸ FAt.new w _ _
  replace B := below_of B AV1 B.size
  have sV1 := B.size
  go_enter Try.func6, Try.ntmps6
  obtain ⟨pa, qa, ra, fa, ga⟩ := id Pa
  go_wp2_with fail
  try rw [hV1]
  with_reducible refine (low_no an ad h1 _).mono ?_
  rintro e w1 ⟨rfl, hb⟩
  have b1 : Below V1.heap.size V1 w1 := hb
  replace Pa := Pa.below b1
  replace B := below_of B b1 B.size
  have sw1 := b1.size
  obtain ⟨pa, qa, ra, fa, ga⟩ := id Pa
  obtain ⟨V2, hV2⟩ : ∃ V, w1.alloc (.cells #[.int .i64 (0), .int .i64 (0)] 50) = V := ⟨_, rfl⟩
  have AV2 : Below w1.heap.size w1 V2 := hV2 ▸ (Below.refl _ _).alloc (Nat.le_refl _) _
  have zV2 : w1.heap.size + 1 = V2.heap.size := by rw [← hV2]; simp
  replace Pa := Pa.below AV2
  have Pl : FAt V2 w1.heap.size (0) (0) := hV2 ▸ FAt.new w1 _ _
  replace B := below_of B AV2 B.size
  have sV2 := B.size
  have HV2 := Lib.hid hV2
  clear hV2
  obtain ⟨pa, qa, ra, fa, ga⟩ := id Pa
  obtain ⟨pl, ql, rl, fl, gl⟩ := id Pl
  go_wp2_with fail
  rw [HV2.out]
  with_reducible refine (floorF_no an ad h1 _).mono ?_
  rintro e w2 ⟨rfl, hb⟩
  have b2 : Below V2.heap.size V2 w2 := hb
  replace Pa := Pa.below b2
  replace Pl := Pl.below b2
  replace B := below_of B b2 B.size
  have sw2 := b2.size
  obtain ⟨pa, qa, ra, fa, ga⟩ := id Pa
  obtain ⟨pl, ql, rl, fl, gl⟩ := id Pl
  go_wp2_with fail
  with_reducible refine (ceilF_no an ad h1 _).mono ?_
  rintro e w3 ⟨rfl, hb⟩
  have b3 : Below w2.heap.size w2 w3 := hb
  replace Pa := Pa.below b3
  replace Pl := Pl.below b3
  replace B := below_of B b3 B.size
  have sw3 := b3.size
  obtain ⟨pa, qa, ra, fa, ga⟩ := id Pa
  obtain ⟨pl, ql, rl, fl, gl⟩ := id Pl
  go_wp2_with fail
  with_reducible refine (c1 _).mono ?_
  rintro e wq ⟨rfl, hq⟩
  subst hq
  have S1Pa := Pa
  have S1Pl := Pl
  have S1B := B
  obtain ⟨V3, hV3⟩ : ∃ V, w3.alloc (.cells #[.bool false, .slice none 0 0] 32) = V := ⟨_, rfl⟩
  have AV3 : Below w3.heap.size w3 V3 := hV3 ▸ (Below.refl _ _).alloc (Nat.le_refl _) _
  have zV3 : w3.heap.size + 1 = V3.heap.size := by rw [← hV3]; simp
  replace Pa := Pa.below AV3
  replace Pl := Pl.below AV3
  have Rs : Room V3 w3.heap.size := hV3 ▸ room_new w3
  replace B := below_of B AV3 B.size
  have sV3 := B.size
  obtain ⟨pa, qa, ra, fa, ga⟩ := id Pa
  obtain ⟨pl, ql, rl, fl, gl⟩ := id Pl
  go_wp2_with fail
  with_reducible refine (c2 _).mono ?_
  rintro e w4 ⟨gx, hgx, rfl, hb, Ix⟩
  have b4 : Below V3.heap.size V3 w4 := hb
  replace Pa := Pa.below b4
  replace Pl := Pl.below b4
  replace Rs := Rs.below b4
  replace B := below_of B b4 B.size
  have sw4 := b4.size
  have lx := Ix.room.lt
  obtain ⟨pa, qa, ra, fa, ga⟩ := id Pa
  obtain ⟨pl, ql, rl, fl, gl⟩ := id Pl
  go_wp2_with fail
  have GB : Below w3.heap.size w3 w4 := (below_of (below_of (Below.refl w3.heap.size w3) AV3 (by omega)) b4 (by omega))
  with_reducible refine (c3 w3.heap.size gx _ Rs Ix).mono ?_
  rintro e w5x ⟨rfl, gr, Is⟩
  have K1 : Below w3.heap.size w3 w5x := GB.grown gr GB.size (fun k hk => by injection hk with hk; omega)
  replace Pa := S1Pa.below K1
  replace Pl := S1Pl.below K1
  replace B := below_of S1B K1 S1B.size
  have sK1 := K1.size
  clear gr GB
  have ls := Is.room.lt
  obtain ⟨pa, qa, ra, fa, ga⟩ := id Pa
  obtain ⟨pl, ql, rl, fl, gl⟩ := id Pl
  go_wp2_with fail
  with_reducible refine (c4 _ _ Is).mono ?_
  rintro e wq ⟨rfl, hq⟩
  subst hq
  obtain ⟨pa, qa, ra, fa, ga⟩ := id Pa
  obtain ⟨pl, ql, rl, fl, gl⟩ := id Pl
  go_wp2_with fail
  with_reducible refine (bright_no h1 _).mono ?_
  rintro e w6 ⟨rfl, hb⟩
  have b6 : Below w5x.heap.size w5x w6 := hb
  replace Pa := Pa.below b6
  replace Pl := Pl.below b6
  replace B := below_of B b6 B.size
  have sw6 := b6.size
  obtain ⟨pa, qa, ra, fa, ga⟩ := id Pa
  obtain ⟨pl, ql, rl, fl, gl⟩ := id Pl
  go_wp2_with fail
  go_ret
  exact ⟨rfl, B⟩

end Go.Proofs.Ytfopcipapphogaa
