/- The reference's division of digits: what it answers. -/
import Derived.Test.YtfopcipapphogaaKnuth3
import Derived.Deep.DeepCutAuto
import Derived.Deep.LoopGhost
import Derived.Deep.CutBlock
import Derived.Deep.QuietTactic
import Derived.BigQuiet
namespace Go.Proofs.Ytfopcipapphogaa
open Go.RowKit

theorem or_hi {a b : Nat} (ha : a < 4294967296) (hb : b < 4294967296) : bits .or .u64 ((a : Int) * 4294967296) (b : Int) = ((a * 4294967296 + b : Nat) : Int) := by
  exact or_word ha hb
/-- Two new rows: the quotient and what is left. -/
def PartsRow (w : World) (L n q r : Nat) (e : Ending) (w' : World) : Prop :=
  ∃ (bo mo br mr : Nat) (O R : Nat → Nat), e = .returned (.tuple #[.slice (some ⟨bo, 0, none⟩) L mo, .slice (some ⟨br, 0, none⟩) n mr]) ∧ L ≤ mo ∧ mo ≤ 1000000 ∧ n ≤ mr ∧ mr ≤ 1000000 ∧ w.heap.size ≤ bo ∧ w.heap.size ≤ br ∧
    w'.rowIs bo 81 mo (fun j => .int .u32 (O j)) ∧ w'.rowIs br 81 mr (fun j => .int .u32 (R j)) ∧ Small L O ∧ Small n R ∧ val L O = q ∧ val n R = r ∧ Below w.heap.size w w'
end Go.Proofs.Ytfopcipapphogaa
