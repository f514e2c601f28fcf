/- FracRoot of package weirhousekeep: its walk. -/
import Derived.Test.YtfopcipapphogaaFrAlive
namespace Go.Proofs.Ytfopcipapphogaa
open Go.RowKit

/-- Root, by whole numbers; how it stands to another root is hidden. -/
theorem root_int (n : Int) (hn : Word n) (w : World) :
    Calls Try.prog 43 #[.int .u64 n] w fun e w' => ∃ r : Int, (∃ r' : Nat, r = r' ∧ RootIs n.toNat r') ∧ e = .returned (.int .u64 r) ∧ w = w' := by
  obtain ⟨n0, n1⟩ := hn
  obtain ⟨n, rfl⟩ := Int.eq_ofNat_of_zero_le n0
  exact (root_any n (by omega) w).mono fun _ _ ⟨r, hr, he, hw⟩ => ⟨r, ⟨r, rfl, hr⟩, he, hw⟩

theorem root_facts {n r : Int} (hn : Word n) (h : ∃ r' : Nat, r = r' ∧ RootIs n.toNat r') :
    ∃ P Q : Int, IntKind.u64.wrap (r * r) = P ∧ (r + 1 < 4294967296 → IntKind.u64.wrap ((r + 1) * (r + 1)) = Q) ∧ 0 ≤ P ∧ P ≤ n ∧ n < Q ∧ 0 ≤ r ∧ r < 4294967296 := by
  obtain ⟨n0, n1⟩ := hn
  obtain ⟨r, rfl, lo, hi, hw⟩ := h
  refine ⟨(r * r : Nat), ((r + 1) * (r + 1) : Nat), ?_, ?_, by omega, by omega, by omega, by omega, by omega⟩
  · rw [IntKind.wrap_u64, ← Int.natCast_mul]; omega
  · intro c
    have := Nat.mul_le_mul (show r + 1 ≤ 4294967295 by omega) (show r + 1 ≤ 4294967295 by omega)
    rw [IntKind.wrap_u64, ← Int.natCast_succ, ← Int.natCast_mul, Nat.succ_eq_add_one]; omega

set_option maxRecDepth 100000 in
theorem fracRoot_all (n m : Int) (hn : Word n) (_hm : Word m) (w : World) :
    Calls Try.prog 10 #[.int .u64 n, .int .u64 m] w fun e w' => e = .returned (.bool true) ∧ Below w.heap.size w w' := by
  go_enter Try.func10, Try.ntmps10
  go_wp2_with fail
  refine (alive2 _).mono ?_
  rintro e w1 ⟨rfl, hb1⟩
  go_wp2_with fail
  refine (root_int n hn _).mono ?_
  rintro e w2 ⟨r, hr, rfl, rfl⟩
  obtain ⟨P, Q, e1, e3, jP, jlo, jhi, j0, jw⟩ := root_facts hn hr
  obtain ⟨T, hT⟩ : ∃ T : Int, (n + m) % 18446744073709551616 = T := ⟨_, rfl⟩
  have e4 : IntKind.u64.wrap (n + m) = T := by
    rw [IntKind.wrap_u64]; omega
  have hTw : Word T := hT ▸ ⟨by omega, by omega⟩
  have hTd : T < n ∨ n ≤ T := by omega
  have Hrest : ∀ w2, n ≤ T → Calls Try.prog 43 #[.int .u64 T] w2 fun e w' => ∃ u : Int, r ≤ u ∧ e = .returned (.int .u64 u) ∧ w2 = w' := fun w2 hl =>
    (root_int T hTw w2).mono fun _ _ ⟨u, hu, he, hw⟩ => ⟨u, by
      obtain ⟨r', rfl, hr⟩ := hr
      obtain ⟨u', rfl, hu⟩ := hu
      have := hr.le hu (by omega)
      omega, he, hw⟩
  clear hT
  obtain ⟨T0, T1⟩ := hTw
  obtain ⟨n0, n1⟩ := hn
  rcases hTd with t | t
  · by_cases c : r + 1 < 4294967296
    · replace e3 := e3 c
      go_wp2_with fail
      go_ret
      exact ⟨rfl, hb1⟩
    · clear e3
      go_wp2_with fail
      go_ret
      exact ⟨rfl, hb1⟩
  · by_cases c : r + 1 < 4294967296
    · replace e3 := e3 c
      go_wp2_with fail
      refine (Hrest _ t).mono ?_
      rintro e w2 ⟨u, hu, rfl, rfl⟩
      go_wp2
      go_ret
      exact ⟨rfl, hb1⟩
    · clear e3
      go_wp2_with fail
      refine (Hrest _ t).mono ?_
      rintro e w2 ⟨u, hu, rfl, rfl⟩
      go_wp2
      go_ret
      exact ⟨rfl, hb1⟩
end Go.Proofs.Ytfopcipapphogaa
