/- The reference's AOf: a contract. -/
import Derived.Test.YtfopcipapphogaaBig14
namespace Go.Proofs.Ytfopcipapphogaa
open Go.RowKit

theorem aof_any (n : Nat) (w : World) (hn : n < 18446744073709551616) : Calls Try.prog 21 #[.int .u64 n] w (NewInt w n) := by
  go_enter Try.func21, Try.ntmps21
  go_wp2_with fail
  refine (setU_any w.heap.size n _ (room_new w) hn).mono ?_
  rintro e w' ⟨rfl, hgr, hi⟩
  go_wp2
  go_ret
  exact ⟨_, Nat.le_refl _, rfl, below_of_grown ((Below.refl _ _).alloc (Nat.le_refl _) _) hgr (Nat.le_refl _), hi⟩
end Go.Proofs.Ytfopcipapphogaa
