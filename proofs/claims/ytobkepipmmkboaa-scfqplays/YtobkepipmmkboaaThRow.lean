/- How a slice of structs of three ints is read as an argument (its types are handed in). -/
import Derived.Test.YtobkepipmmkboaaTh1
import Derived.Test.YtobkepipmmkboaaInRow
namespace Go.Proofs.Ytobkepipmmkboaa
open Go.ChangeShapes Go.WideShapes Go.ChangeAt Go.RowKit Go.Joins Go.Deep

/-- Structs of three numbers that came as an argument. -/
structure Came3 (w : World) (A : Option Addr) (cap : Nat) (xs : List (Int × Int × Int)) : Prop where
  threes : ThreeIn w A xs
  room : xs.length ≤ cap
  size : cap * 24 + 4096 ≤ 140737488355328
  nil : A = none → xs = [] ∧ cap = 0
  fits : ∀ x ∈ xs, I64 x.1 ∧ I64 x.2.1 ∧ I64 x.2.2
theorem open_threes {T E : TypeId} {fs : Array Field} (hu : Try.prog.underlying T = some (.slice E)) (he : Try.prog.underlying E = some (.struct fs)) (hk : Try.prog.cellsOf E = 3) (hf : flatB fs 3 = true) {H : Type} {enc : TypeId × Value → H} {W : World} {A : Option Addr} {len cap : Nat} {d : DataW H} {p : List MemPlace} (h : DataW.Trod enc Try.prog W 0 (fun _ => true) true T (.slice A len cap) d p)
    (hsize : ∀ elems spare, d = .slice elems spare → (elems.length + spare.length) * 24 ≤ reachBytes) : ∃ xs : List (Int × Int × Int), xs.length = len ∧ Came3 W A cap xs := by
  obtain ⟨fuel, hfu⟩ := h
  obtain ⟨xs, h1, h2, h3, h4, h5, h6⟩ := open_rows hu hk (by decide) (fun o : Int × Int × Int => [.int .i64 o.1, .int .i64 o.2.1, .int .i64 o.2.2]) (fun x => I64 x.1 ∧ I64 x.2.1 ∧ I64 x.2.2) (fun n cs x hl hx => by
    obtain ⟨a, hl2, e, ha, _⟩ := trod_flat he hk hf hx
    match a, hl2 with
    | [u, v, z], _ => exact ⟨(u, v, z), e, ha u (by simp), ha v (by simp), ha z (by simp)⟩) hfu hsize
  refine ⟨xs, h1, ⟨fun h0 => ?_⟩, by omega, h3, fun e => ?_, h5⟩
  · obtain ⟨b, off, e, hb, hc⟩ := h6 (by omega)
    exact ⟨b, off, e, hb, fun j o ho => ⟨hc j o 0 ho (by decide), hc j o 1 ho (by decide), hc j o 2 ho (by decide)⟩⟩
  · obtain ⟨e1, e2⟩ := h4 e
    exact ⟨List.eq_nil_of_length_eq_zero (by omega), e2⟩
end Go.Proofs.Ytobkepipmmkboaa
