/- Rows of digits that a call has made. -/
import Derived.Test.YtemoleopabddnaaBig1
namespace Go.Proofs.Ytemoleopabddnaa
open Go.RowKit

/-- A call made a row of L digits, of the number N. -/
def NewRow (w : World) (L N : Nat) (e : Ending) (w' : World) : Prop :=
  ∃ (b m : Nat) (f : Nat → Nat), e = .returned (.slice (some ⟨b, 0, none⟩) L m) ∧ L ≤ m ∧ m ≤ 1000000 ∧ w.heap.size ≤ b ∧ w'.rowIs b 62 m (fun j => .int .u32 (f j)) ∧ Small L f ∧ val L f = N ∧ Below w.heap.size w w'
theorem NewRow.dig {w' : World} {b m L : Nat} {f : Nat → Nat} (h : w'.rowIs b 62 m (fun j => .int .u32 (f j))) (hl : L ≤ m) : Dig w' (some ⟨b, 0, none⟩) L f :=
  fun _ => ⟨b, m, _, rfl, hl, h, fun _ _ => rfl⟩

theorem val_put {k : Nat} {h : Nat → Nat} {v : Nat} : val k (fun j => if j = k then v else h j) = val k h := val_congr fun j hj => by simp; omega
theorem row_put {w : World} {b m : Nat} {h : Nat → Nat} (r : w.rowIs b 62 m (fun j => .int .u32 (h j))) (k v : Nat) {V : Int} (hv : V = v) :
    (w.setCell ⟨b, k, none⟩ (.int .u32 V)).rowIs b 62 m (fun j => .int .u32 ((if j = k then v else h j : Nat) : Int)) := by
  subst hv
  exact (r.set k _).congr fun j _ => by split <;> rfl

theorem digit_step (k T a : Nat) : a + T % 4294967296 * 4294967296 ^ k + T / 4294967296 * 4294967296 ^ (k + 1) = a + T * 4294967296 ^ k := by
  rw [Nat.pow_succ, Nat.add_assoc, Nat.mul_comm (4294967296 ^ k), ← Nat.mul_assoc, ← Nat.add_mul]
  have : T % 4294967296 + T / 4294967296 * 4294967296 = T := by omega
  rw [this]
end Go.Proofs.Ytemoleopabddnaa
