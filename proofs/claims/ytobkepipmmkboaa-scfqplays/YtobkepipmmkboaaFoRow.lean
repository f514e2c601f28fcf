/- How a []api.FlowOp is read as an argument. -/
import Derived.Test.YtobkepipmmkboaaThRow
namespace Go.Proofs.Ytobkepipmmkboaa
open Go.ChangeShapes Go.WideShapes Go.ChangeAt Go.RowKit Go.Joins Go.Deep

theorem cells_fop : Try.prog.cellsOf 40 = 3 := by kernel_rfl
theorem bytes_fop : Try.prog.bytesOf 40 = 24 := by kernel_rfl
theorem open_fops {H : Type} {enc : TypeId × Value → H} {W : World} {A : Option Addr} {len cap : Nat} {d : DataW H} {p : List MemPlace} (h : DataW.Trod enc Try.prog W 0 (fun _ => true) true 23 (.slice A len cap) d p)
    (hsize : ∀ elems spare, d = .slice elems spare → (elems.length + spare.length) * 24 ≤ reachBytes) : ∃ xs : List (Int × Int × Int), xs.length = len ∧ Came3 W A cap xs :=
  open_threes Try.underlying23 Try.underlying40 cells_fop (by kernel_rfl) h hsize
end Go.Proofs.Ytobkepipmmkboaa
