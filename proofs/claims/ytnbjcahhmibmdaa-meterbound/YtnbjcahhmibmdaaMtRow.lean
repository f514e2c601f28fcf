/- How arguments that are slices of shots are read: helpers for the rows. -/
import Derived.Test.YtnbjcahhmibmdaaInRow
import Derived.Test.YtnbjcahhmibmdaaMt5
namespace Go.Proofs.Ytnbjcahhmibmdaa
open Go.ChangeShapes Go.WideShapes Go.ChangeAt Go.RowKit Go.Joins Go.Deep

theorem cells_shot : Try.prog.cellsOf 25 = 2 := by kernel_rfl
theorem bytes_shot : Try.prog.bytesOf 25 = 16 := by kernel_rfl
/-- Shots that came as an argument. -/
structure CameS (w : World) (A : Option Addr) (cap : Nat) (xs : List (Int × Int)) : Prop where
  shots : ShotsIn w A xs
  room : xs.length ≤ cap
  size : cap * 16 + 4096 ≤ 140737488355328
  nil : A = none → xs = [] ∧ cap = 0
  fits : ∀ x ∈ xs, I64 x.1 ∧ I64 x.2
theorem open_shots {H : Type} {enc : TypeId × Value → H} {W : World} {A : Option Addr} {len cap : Nat} {d : DataW H} {p : List MemPlace} (h : DataW.Trod enc Try.prog W 0 (fun _ => true) true 31 (.slice A len cap) d p)
    (hsize : ∀ elems spare, d = .slice elems spare → (elems.length + spare.length) * 16 ≤ reachBytes) : ∃ xs : List (Int × Int), xs.length = len ∧ CameS W A cap xs := by
  obtain ⟨fuel, hf⟩ := h
  obtain ⟨xs, h1, h2, h3, h4, h5, h6⟩ := open_rows Try.underlying31 cells_shot (by decide) (fun o : Int × Int => [.int .i64 o.1, .int .i64 o.2]) (fun x => I64 x.1 ∧ I64 x.2) (fun n cs x hl hx => by
    obtain ⟨a, hl2, e, ha, _⟩ := trod_flat Try.underlying25 cells_shot (by kernel_rfl) hx
    match a, hl2 with
    | [u, v], _ => exact ⟨(u, v), e, ha u (by simp), ha v (by simp)⟩) hf hsize
  refine ⟨xs, h1, ⟨fun h0 => ?_, by omega⟩, by omega, h3, fun e => ?_, h5⟩
  · obtain ⟨b, off, e, hb, hc⟩ := h6 (by omega)
    exact ⟨b, off, e, hb, fun j o ho => ⟨hc j o 0 ho (by decide), hc j o 1 ho (by decide)⟩⟩
  · obtain ⟨e1, e2⟩ := h4 e
    exact ⟨List.eq_nil_of_length_eq_zero (by omega), e2⟩
end Go.Proofs.Ytnbjcahhmibmdaa
