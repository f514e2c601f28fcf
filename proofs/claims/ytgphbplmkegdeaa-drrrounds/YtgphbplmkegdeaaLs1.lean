/- Slices of slices of ints in memory: notions. -/
import Derived.Test.YtgphbplmkegdeaaIn1
namespace Go.Proofs.Ytgphbplmkegdeaa
open Go.RowKit Go.Maps

/-- Slices of numbers lie in memory, one behind the other. -/
structure ListsIn (w : World) (A : Option Addr) (fs : List (List Int)) : Prop where
  at_ : 0 < fs.length → ∃ b off, A = some ⟨b, off, none⟩ ∧ b < w.heap.size ∧ ∀ j f, fs[j]? = some f → ∃ B c, w.cell? ⟨b, off + j, none⟩ = some (.slice B f.length c) ∧ IntsIn w B f ∧ f.length ≤ c
  len : fs.length * 24 ≤ 281474976710656
theorem ListsIn.below {w w' : World} {A : Option Addr} {fs : List (List Int)} (h : ListsIn w A fs) (hb : Below w.heap.size w w') : ListsIn w' A fs := by
  refine ⟨fun h0 => ?_, h.len⟩
  obtain ⟨b, off, e, hl, hc⟩ := h.at_ h0
  refine ⟨b, off, e, Nat.lt_of_lt_of_le hl hb.size, fun j f hf => ?_⟩
  obtain ⟨B, c, h1, h2, h3⟩ := hc j f hf
  exact ⟨B, c, (hb.cell (p := ⟨b, off + j, none⟩) hl).trans h1, h2.below hb, h3⟩
theorem ListsIn.next {w : World} {A : Option Addr} {fs : List (List Int)} (h : ListsIn w A fs) {i : Nat} (hi : i < fs.length) : ∃ b off f B c, A = some ⟨b, off, none⟩ ∧ fs[i]? = some f ∧ w.cell? ⟨b, off + i, none⟩ = some (.slice B f.length c) ∧ IntsIn w B f ∧ b < w.heap.size ∧ f.length ≤ c := by
  obtain ⟨b, off, e, hl, hc⟩ := h.at_ (by omega)
  obtain ⟨B, c, h1, h2, h3⟩ := hc i _ (List.getElem?_eq_getElem hi)
  exact ⟨b, off, fs[i], B, c, e, List.getElem?_eq_getElem hi, h1, h2, hl, h3⟩
theorem ListsIn.nil (w : World) (A : Option Addr) : ListsIn w A [] := ⟨fun h => absurd h (by decide), by decide⟩
end Go.Proofs.Ytgphbplmkegdeaa
