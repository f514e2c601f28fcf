/- The call that asks whether package wide is there at all returns true. -/
import Derived.Test.YtopjhemahokmeaaWide2
namespace Go.Proofs.Ytopjhemahokmeaa
open Go.RowKit

/-- A number of 128 bits lies in block b. -/
def At (w : World) (b : Nat) (h l : Int) : Prop := w.cell? ⟨b, 0, none⟩ = some (.int .u64 h) ∧ w.cell? ⟨b, 1, none⟩ = some (.int .u64 l) ∧ b < w.heap.size ∧ w.frozen? ⟨b, 0, none⟩ = false ∧ w.frozen? ⟨b, 1, none⟩ = false
theorem At.below {W w' : World} {b : Nat} {h l : Int} (p : At W b h l) (hb : Below W.heap.size W w') : At w' b h l :=
  ⟨(hb.cell (p := ⟨b, 0, none⟩) p.2.2.1).trans p.1, (hb.cell (p := ⟨b, 1, none⟩) p.2.2.1).trans p.2.1, Nat.lt_of_lt_of_le p.2.2.1 hb.size,
    (hb.frozen (p := ⟨b, 0, none⟩) p.2.2.1).trans p.2.2.2.1, (hb.frozen (p := ⟨b, 1, none⟩) p.2.2.1).trans p.2.2.2.2⟩
theorem At.alloc {W : World} {b : Nat} {h l : Int} (p : At W b h l) (o : Obj) : At (W.alloc o) b h l :=
  p.below ((Below.refl _ _).alloc (Nat.le_refl _) o)
theorem At.drewN {W : World} {b : Nat} {h l : Int} (p : At W b h l) (n : Nat) : At (W.drewN n) b h l := p
theorem At.new (w : World) (h l : Int) : At (w.alloc (.cells #[.int .u64 h, .int .u64 l] 24)) w.heap.size h l := by
  refine ⟨?_, ?_, ?_, ?_, ?_⟩ <;> simp [go_sem]
theorem At.at_ {W : World} {b b' : Nat} {h l : Int} (p : At W b h l) (e : b = b') : At W b' h l := e ▸ p

theorem alive_add (w : World) : Calls Try.prog 10 #[.agg #[.int .u64 0, .int .u64 18446744073709551615], .agg #[.int .u64 0, .int .u64 1]] w fun e w' =>
    e = .returned (.tuple #[.agg #[.int .u64 1, .int .u64 0], .bool false]) ∧ Below w.heap.size w w' := by
  have h := add_any 0 18446744073709551615 0 1 ⟨by decide, by decide⟩ ⟨by decide, by decide⟩ ⟨by decide, by decide⟩ ⟨by decide, by decide⟩ w
  rw [show sH 0 18446744073709551615 0 1 = 1 from by decide, show sL 18446744073709551615 1 = 0 from by decide, show sC 0 18446744073709551615 0 1 = false from by decide] at h
  exact h
theorem alive_div (w : World) : Calls Try.prog 26 #[.agg #[.int .u64 1, .int .u64 0], .int .u64 3] w fun e w' =>
    e = .returned (.tuple #[.agg #[.int .u64 0, .int .u64 6148914691236517205], .int .u64 1, .int .i64 0]) ∧ Below w.heap.size w w' := by
  have h := div_any 1 0 3 ⟨by decide, by decide⟩ ⟨by decide, by decide⟩ ⟨by decide, by decide⟩ (by decide) w
  rw [show qL 1 0 3 = 6148914691236517205 from by decide, show qR 1 0 3 = 1 from by decide, show (1 : Int) / 3 = 0 from by decide] at h
  exact h
theorem alive_gcd (w : World) : Calls Try.prog 23 #[.int .u64 12, .int .u64 18] w fun e w' => e = .returned (.int .u64 6) ∧ ∃ n, w' = w.drewN n := by
  have h := gcd_any 12 18 ⟨by decide, by decide⟩ ⟨by decide, by decide⟩ w
  rw [show gI 12 18 = 6 from by decide] at h
  exact h
theorem alive_lcm (w : World) : Calls Try.prog 25 #[.int .u64 4, .int .u64 6] w fun e w' => e = .returned (.agg #[.int .u64 0, .int .u64 12]) ∧ Below w.heap.size w w' := by
  have h := lcm_any 4 6 ⟨by decide, by decide⟩ ⟨by decide, by decide⟩ w
  rw [show lP 4 6 = 12 from by decide] at h
  exact h
theorem alive_mul (w : World) : Calls Try.prog 22 #[.int .u64 9223372036854775808, .int .u64 4] w fun e w' => e = .returned (.agg #[.int .u64 2, .int .u64 0]) ∧ Below w.heap.size w w' := by
  have h := mul_any 9223372036854775808 4 ⟨by decide, by decide⟩ ⟨by decide, by decide⟩ w
  rw [show (9223372036854775808 : Int) * 4 / 18446744073709551616 = 2 from by decide, show (9223372036854775808 : Int) * 4 % 18446744073709551616 = 0 from by decide] at h
  exact h

set_option maxHeartbeats 1000000 in
theorem alive1 (w : World) : Calls Try.prog 28 #[] w fun e w' => e = .returned (.bool true) ∧ Below w.heap.size w w' := by
  go_enter Try.func28, Try.ntmps28
  go_wp2_with fail
  refine (alive_add _).mono ?_
  rintro e w1 ⟨rfl, hb1⟩
  have hz1 := hb1.size
  go_wp2_with fail
  refine (alive_div _).mono ?_
  rintro e w2 ⟨rfl, hb2⟩
  obtain ⟨c1, c2⟩ := bcell hb2
  have hz2 : w1.heap.size < w2.heap.size := by have := hb2.size; simp at this; omega
  go_wp2_with fail
  refine (alive_gcd _).mono ?_
  rintro e w3 ⟨rfl, n, rfl⟩
  go_wp2_with fail
  refine (alive_lcm _).mono ?_
  rintro e w4 ⟨rfl, hb4⟩
  go_wp2_with fail
  refine (alive_mul _).mono ?_
  rintro e w5 ⟨rfl, hb5⟩
  go_wp2
  go_ret
  have h4 : w.heap.size ≤ w4.heap.size := by have := hb4.size; simp at this; omega
  exact ⟨rfl, below_of (below_of (below_drewN ((below_of (hb1.alloc hz1 _) hb2 (by simp; omega)).alloc (by omega) _) n) hb4 (by simp; omega)) hb5 h4⟩
end Go.Proofs.Ytopjhemahokmeaa
