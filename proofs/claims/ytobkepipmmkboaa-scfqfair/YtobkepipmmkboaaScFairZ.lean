/- ScfqFair at whatever arguments. -/
import Derived.Test.YtobkepipmmkboaaScFair
namespace Go.Proofs.Ytobkepipmmkboaa
open Go.RowKit Go.Maps

theorem scfqFair_walk {w : World} {P Q : Option Addr} {xs : List Int} {os : List (Int × Int × Int)} {n m : Nat} (hx : IntsIn w P xs) (h1 : xs.length = n) (hy : ThreeIn w Q os) (h2 : os.length = m) (cx cy : Nat) (a b : Int) :
    Calls Try.prog 5 #[.slice P n cx, .slice Q m cy, .int .i64 a, .int .i64 b] w fun e w' => e = .returned (.bool true) ∧ Below w.heap.size w w' := by
  subst h1 h2
  by_cases c : playErr xs os ≠ 0 ∨ a < 0 ∨ b < 0 ∨ (xs.length : Int) ≤ a ∨ (xs.length : Int) ≤ b ∨ a = b
  · exact fair_early hx hy cx cy a b c
  · obtain ⟨k, rfl⟩ : ∃ k : Nat, a = (k : Int) := ⟨a.toNat, by omega⟩
    obtain ⟨j, rfl⟩ : ∃ j : Nat, b = (j : Int) := ⟨b.toNat, by omega⟩
    exact fair_both hx hy cx cy k j (by omega) (by omega) (by omega) (by omega)
end Go.Proofs.Ytobkepipmmkboaa
