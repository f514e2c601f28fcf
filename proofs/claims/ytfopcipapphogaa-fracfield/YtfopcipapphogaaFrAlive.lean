/- The call that asks whether package frac is there at all returns true. -/
import Derived.Test.YtfopcipapphogaaFr3
import Derived.Test.YtfopcipapphogaaFrRoot
namespace Go.Proofs.Ytfopcipapphogaa
open Go.RowKit

theorem RootIs.le {n m r s : Nat} (h : RootIs n r) (k : RootIs m s) (l : n ≤ m) : r ≤ s := by
  rcases Nat.lt_or_ge s r with c | c
  · have := Nat.mul_le_mul (show s + 1 ≤ r from c) (show s + 1 ≤ r from c)
    have := h.lo
    have := k.hi
    omega
  · exact c
theorem RootIs.eq {n r s : Nat} (h : RootIs n r) (k : RootIs n s) : r = s := Nat.le_antisymm (h.le k (Nat.le_refl _)) (k.le h (Nat.le_refl _))

theorem alive_fadd (w : World) : Calls Try.prog 31 #[.agg #[.int .i64 1, .int .i64 6], .agg #[.int .i64 1, .int .i64 3]] w fun e w' =>
    e = .returned (.tuple #[.agg #[.int .i64 1, .int .i64 2], .int .i64 0]) ∧ Below w.heap.size w w' := by
  have h := addF_yes 1 6 1 3 (by decide) (by decide) (by decide) w
  rw [show lN (1 * 3 + 1 * 6) (6 * 3) = 1 from by decide, show lD (1 * 3 + 1 * 6) (6 * 3) = 2 from by decide] at h
  exact h
theorem alive_floor (w : World) : Calls Try.prog 41 #[.agg #[.int .i64 (-7), .int .i64 2]] w fun e w' =>
    e = .returned (.tuple #[.int .i64 (-4), .int .i64 0]) ∧ Below w.heap.size w w' := floorF_yes (-7) 2 (by decide) w
theorem alive_ceil (w : World) : Calls Try.prog 42 #[.agg #[.int .i64 (-7), .int .i64 2]] w fun e w' =>
    e = .returned (.tuple #[.int .i64 (-3), .int .i64 0]) ∧ Below w.heap.size w w' := ceilF_yes (-7) 2 (by decide) w
theorem alive_root (w : World) : Calls Try.prog 43 #[.int .u64 99] w fun e w' => e = .returned (.int .u64 9) ∧ w = w' :=
  (root_any 99 (by decide) w).mono fun _ _ ⟨_, hr, he, hw⟩ => ⟨by rw [he, hr.eq (⟨by decide, by decide, by decide⟩ : RootIs 99 9)]; rfl, hw⟩

set_option maxHeartbeats 1000000 in
theorem alive2 (w : World) : Calls Try.prog 49 #[] w fun e w' => e = .returned (.bool true) ∧ Below w.heap.size w w' := by
  go_enter Try.func49, Try.ntmps49
  go_wp2_with fail
  refine (alive_fadd _).mono ?_
  rintro e w1 ⟨rfl, hb1⟩
  have hz1 := hb1.size
  have P1 := FAt.new w1 1 2
  go_wp2_with fail
  refine (alive_floor _).mono ?_
  rintro e w2 ⟨rfl, hb2⟩
  replace P1 := P1.below hb2
  have B2 := below_of (hb1.alloc hz1 _) hb2 (by simp; omega)
  obtain ⟨p1, q1, r1, f1, g1⟩ := id P1
  go_wp2_with fail
  refine (alive_ceil _).mono ?_
  rintro e w3 ⟨rfl, hb3⟩
  replace P1 := P1.below hb3
  have B3 := below_of B2 hb3 B2.size
  obtain ⟨p1, q1, r1, f1, g1⟩ := id P1
  go_wp2_with fail
  refine (alive_root _).mono ?_
  rintro e w4 ⟨rfl, rfl⟩
  go_wp2
  go_ret
  exact ⟨rfl, B3⟩
end Go.Proofs.Ytfopcipapphogaa
