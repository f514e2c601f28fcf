/- How an argument that is a slice of bytes is read: helpers for the rows. -/
import Derived.Test.YtmigfemkbdehbaaSm2
import Derived.ProofKit
import Derived.SizedLaws
import Derived.Carry
import Derived.Lib.SmallJoins
import Derived.Lib.RowBridge
import Derived.Deep.Strs
import Derived.Deep.Slices
namespace Go.Proofs.Ytmigfemkbdehbaa
open Go.ChangeShapes Go.WideShapes Go.ChangeAt Go.RowKit Go.Joins Go.Deep

theorem Try.own : ownKnob Try.prog.godebug = none := by kernel_rfl
theorem laidOut : laidOutB Try.prog = true := by kernel_rfl
theorem cells5 : Try.prog.cellsOf 5 = 1 := by kernel_rfl
theorem bytes5 : Try.prog.bytesOf 5 = 1 := by kernel_rfl
theorem half_of_wf {x : Int} (h : (Lit.int .u16 x).wf = true) : Half x := by
  simp [Lit.wf, IntKind.min, IntKind.max, IntKind.signed, IntKind.bits] at h
  exact ⟨by omega, by omega⟩
theorem byte_of_wf {x : Int} (h : (Lit.int .u8 x).wf = true) : Byte x := by
  simp [Lit.wf, IntKind.min, IntKind.max, IntKind.signed, IntKind.bits] at h
  exact ⟨by omega, by omega⟩

theorem cells1 {w : World} {a : Addr} {c : Value} (h : w.cells? 0 a 1 = some [c]) : w.cell? (a.add 0) = some c := by
  unfold World.cells? at h
  rw [if_pos (Nat.zero_le _)] at h
  have e : List.range 1 = [0] := rfl
  rw [e] at h
  simp only [List.mapM_cons, List.mapM_nil, Option.pure_def, Option.bind_eq_bind, Option.bind_eq_some_iff, Option.some.injEq, List.cons.injEq] at h
  obtain ⟨x0, h0, x1, rfl, h2, _⟩ := h
  rw [← h2]; exact h0

theorem open_bytes {H : Type} {enc : TypeId × Value → H} {W : World} {A : Option Addr} {len cap : Nat} {d : DataW H} {p : List MemPlace} (h : DataW.Trod enc Try.prog W 0 (fun _ => true) true 25 (.slice A len cap) d p)
    (hsize : ∀ elems spare, d = .slice elems spare → (elems.length + spare.length) * 1 ≤ reachBytes) : ∃ bs : List Int, bs.length = len ∧ CameB W A cap bs := by
  obtain ⟨fuel, hf⟩ := h
  rcases open_slice Try.underlying25 hf with ⟨hcs, hx⟩ | ⟨a, len', cap', m, n, D, Pl, hcs, _, hl, hm, hme, hx, hel⟩
  · simp [Value.cells] at hcs
    obtain ⟨rfl, rfl, rfl⟩ := hcs
    exact ⟨[], rfl, ⟨fun h => absurd h (by simp), fun x hx => (by cases hx), by simp⟩, by simp, fun _ => ⟨rfl, rfl⟩⟩
  · simp [Value.cells] at hcs
    obtain ⟨rfl, rfl, rfl⟩ := hcs
    simp only [if_true] at hme
    subst hme
    simp only [Prod.mk.injEq] at hx
    have hsz := hsize _ _ hx.1
    simp only [List.length_map, List.length_range, reachBytes] at hsz
    rw [cells5] at hel
    have key : ∀ i, i < len → ∃ x : Int, W.cell? (a.add i) = some (.int .u8 x) ∧ Byte x := fun i hi => by
      obtain ⟨cs', h1, h2⟩ := hel i (by omega)
      obtain ⟨x, e, -, wx⟩ := DataW.trod_int Try.underlying5 h2
      subst e
      have h3 := cells1 h1
      rw [Nat.mul_one] at h3
      refine ⟨x, ?_, byte_of_wf wx⟩
      obtain ⟨b, off, spot⟩ := a
      have hs : ((⟨b, off, spot⟩ : Addr).add i).add 0 = (⟨b, off, spot⟩ : Addr).add i := by
        cases spot <;> simp [Addr.add]
      rw [hs] at h3
      exact h3
    obtain ⟨f, hfk⟩ := choose_lt key
    have hspot : 0 < len → a.spot = none := fun h0 => by
      simpa [Addr.add] using World.cell?_spot (hfk 0 h0).1
    have hat : ∀ j x, ((List.range len).map f)[j]? = some x → j < len ∧ x = f j := fun j o ho => by
      rw [List.getElem?_map] at ho
      rcases Nat.lt_or_ge j len with hj | hj
      · rw [List.getElem?_range hj] at ho
        simp at ho
        exact ⟨hj, ho.symm⟩
      · rw [List.getElem?_eq_none (by simpa using hj)] at ho
        cases ho
    refine ⟨(List.range len).map f, by simp, ⟨fun h0 => ?_, fun x hx => ?_, ?_⟩, ?_, fun h => by cases h⟩
    · simp only [List.length_map, List.length_range] at h0
      obtain ⟨b, off, spot⟩ := a
      have hs := hspot h0
      simp only at hs
      subst hs
      have hc : ∀ j, j < len → W.cell? ⟨b, off + j, none⟩ = some (.int .u8 (f j)) := fun j hj => by
        have := (hfk j hj).1
        rw [add_plain] at this
        exact this
      refine ⟨b, off, rfl, World.block_lt_of_cell? _ _ (hc 0 h0), fun j x hx => ?_⟩
      obtain ⟨hj, rfl⟩ := hat j x hx
      exact hc j hj
    · obtain ⟨j, hj, rfl⟩ := List.mem_map.1 hx
      exact (hfk j (List.mem_range.1 hj)).2
    · simp only [List.length_map, List.length_range]; omega
    · simp only [List.length_map, List.length_range]; omega

end Go.Proofs.Ytmigfemkbdehbaa
