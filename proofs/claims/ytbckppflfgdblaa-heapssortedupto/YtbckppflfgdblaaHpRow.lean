/- How an argument that is a slice of operations is read: helpers for the rows. -/
import Derived.Test.YtbckppflfgdblaaHpUpd
import Derived.ProofKit
import Derived.SizedLaws
import Derived.Lib.SmallJoins
import Derived.Lib.RowBridge
import Derived.Deep.Strs
import Derived.Deep.Slices
namespace Go.Proofs.Ytbckppflfgdblaa
open Go.ChangeShapes Go.WideShapes Go.ChangeAt Go.RowKit Go.Joins Go.Deep

theorem Try.own : ownKnob Try.prog.godebug = none := by kernel_rfl
theorem laidOut : laidOutB Try.prog = true := by kernel_rfl
theorem cells37 : Try.prog.cellsOf 37 = 4 := by kernel_rfl
theorem bytes37 : Try.prog.bytesOf 37 = 32 := by kernel_rfl
instance : Inhabited Op4 := ⟨⟨0, 0, 0, 0⟩⟩

theorem len4 {α : Type} {cs : List α} (h : cs.length = 4) : ∃ a b c d, cs = [a, b, c, d] := by
  match cs, h with
  | [a, b, c, d], _ => exact ⟨a, b, c, d, rfl⟩
theorem cells3' : Try.prog.cellsOf 3 = 1 := by kernel_rfl
theorem cells33 : Try.prog.cellsOf 33 = 1 := by kernel_rfl
theorem cells35 : Try.prog.cellsOf 35 = 2 := by kernel_rfl

theorem trod_op {H : Type} {enc : TypeId × Value → H} {w : World} {base : Nat} {spare : Nat → Bool} {held : Bool} {n : Nat} {cs : List Value} {x : DataW H × List MemPlace}
    (h : DataW.trod enc Try.prog w base spare held n 37 cs = some x) : ∃ o : Op4, cs = o.cells ∧ I64 o.id := by
  obtain ⟨y0, y1, y2, n1, -, hl, h0, h1, h2⟩ := trod_struct3 Try.underlying37 h
  rw [cells37] at hl
  clear h
  obtain ⟨c0, c1, c2, c3, rfl⟩ := len4 hl
  rw [cells3'] at h0 h1
  rw [cells35] at h2
  obtain ⟨k, e0, -, -⟩ := DataW.trod_int Try.underlying3 h0
  obtain ⟨i, e1, -, wi⟩ := DataW.trod_int Try.underlying3 h1
  obtain ⟨z0, z1, n2, -, -, g0, g1⟩ := trod_struct2 Try.underlying35 h2
  rw [cells33] at g0 g1
  obtain ⟨a, e2, -, -⟩ := DataW.trod_int Try.underlying33 g0
  obtain ⟨c, e3, -, -⟩ := DataW.trod_int Try.underlying33 g1
  clear h0 h1 h2 g0 g1 hl
  refine ⟨⟨k, i, a, c⟩, ?_, wi⟩
  clear wi
  simp at e0 e1 e2 e3
  rw [e0, e1, e2, e3]; rfl

theorem cells4 {w : World} {a : Addr} {c0 c1 c2 c3 : Value} (h : w.cells? 0 a 4 = some [c0, c1, c2, c3]) : w.cell? (a.add 0) = some c0 ∧ w.cell? (a.add 1) = some c1 ∧ w.cell? (a.add 2) = some c2 ∧ w.cell? (a.add 3) = some c3 := by
  unfold World.cells? at h
  rw [if_pos (Nat.zero_le _)] at h
  have e : List.range 4 = [0, 1, 2, 3] := rfl
  rw [e] at h
  simp only [List.mapM_cons, List.mapM_nil, Option.pure_def, Option.bind_eq_bind, Option.bind_eq_some_iff, Option.some.injEq, List.cons.injEq] at h
  obtain ⟨x0, h0, x1, ⟨y1, h1, x2, ⟨y2, h2, x3, ⟨y3, h3, x4, h4⟩, h5⟩, h6⟩, h7⟩ := h
  obtain ⟨rfl, rfl⟩ := h4
  subst h5 h6
  simp only [List.cons.injEq] at h7
  obtain ⟨rfl, rfl, h5, h6⟩ := h7
  subst h5
  simp only [and_true] at h6
  subst h6
  exact ⟨h0, h1, h2, h3⟩

theorem cell_lt {w : World} {a : Addr} {v : Value} (h : w.cell? a = some v) : a.block < w.heap.size := by
  rcases Nat.lt_or_ge a.block w.heap.size with h1 | h1
  · exact h1
  · unfold World.cell? at h
    rw [Array.getElem?_eq_none h1] at h
    simp at h

theorem open_ops {H : Type} {enc : TypeId × Value → H} {W : World} {A : Option Addr} {len cap : Nat} {d : DataW H} {p : List MemPlace} (h : DataW.Trod enc Try.prog W 0 (fun _ => true) true 22 (.slice A len cap) d p)
    (hsize : ∀ elems spare, d = .slice elems spare → (elems.length + spare.length) * 32 ≤ reachBytes) : ∃ b off os, os.length = len ∧ Came W A cap b off os := by
  obtain ⟨fuel, hf⟩ := h
  rcases open_slice Try.underlying22 hf with ⟨hcs, hx⟩ | ⟨a, len', cap', m, n, D, Pl, hcs, _, hl, hm, hme, hx, hel⟩
  · simp [Value.cells] at hcs
    obtain ⟨rfl, rfl, rfl⟩ := hcs
    exact ⟨0, 0, [], rfl, ⟨fun j o ho => (by cases ho), fun h => (by cases h), .inr ⟨rfl, rfl, rfl⟩, fun o ho => (by cases ho), by simp⟩⟩
  · simp [Value.cells] at hcs
    obtain ⟨rfl, rfl, rfl⟩ := hcs
    simp only [if_true] at hme
    subst hme
    simp only [Prod.mk.injEq] at hx
    have hsz := hsize _ _ hx.1
    simp only [List.length_map, List.length_range, reachBytes] at hsz
    rw [cells37] at hel
    have key : ∀ i, i < len → ∃ o : Op4, W.cells? 0 (a.add (i * 4)) 4 = some o.cells ∧ I64 o.id := fun i hi => by
      obtain ⟨cs', h1, h2⟩ := hel i (by omega)
      obtain ⟨o, rfl, ho⟩ := trod_op h2
      exact ⟨o, h1, ho⟩
    obtain ⟨f, hfk⟩ := choose_lt key
    refine ⟨a.block, a.off, (List.range len).map f, by simp, ?_⟩
    have hat : ∀ j o, ((List.range len).map f)[j]? = some o → j < len ∧ o = f j := fun j o ho => by
      rw [List.getElem?_map] at ho
      rcases Nat.lt_or_ge j len with hj | hj
      · rw [List.getElem?_range hj] at ho
        simp at ho
        exact ⟨hj, ho.symm⟩
      · rw [List.getElem?_eq_none (by simpa using hj)] at ho
        cases ho
    have hspot : 0 < len → a.spot = none := fun h0 => by
      obtain ⟨h0, -, -, -⟩ := cells4 (hfk 0 h0).1
      simpa [Addr.add] using World.cell?_spot h0
    have hc : ∀ j, j < len → a.spot = none ∧ ∀ c v, (f j).cells[c]? = some v → W.cell? ⟨a.block, a.off + j * 4 + c, none⟩ = some v := fun j hj => by
      obtain ⟨h0, h1, h2, h3⟩ := cells4 (hfk j hj).1
      have hs := hspot (by omega)
      refine ⟨hs, fun c v hv => ?_⟩
      obtain ⟨b, off, spot⟩ := a
      simp only at hs
      subst hs
      simp only [add_plain] at h0 h1 h2 h3 ⊢
      rcases c with _ | _ | _ | _ | c
      · simp [Op4.cells] at hv; rw [← hv]; exact h0
      · simp [Op4.cells] at hv; rw [← hv]; exact h1
      · simp [Op4.cells] at hv; rw [← hv]; exact h2
      · simp [Op4.cells] at hv; rw [← hv]; exact h3
      · simp [Op4.cells] at hv
    refine ⟨fun j o ho => ?_, fun h0 => ?_, .inl ⟨a, rfl, fun h0 => ?_⟩, fun o ho => ?_, ?_⟩
    · obtain ⟨hj, rfl⟩ := hat j o ho
      obtain ⟨_, h⟩ := hc j hj
      exact ⟨h 0 _ rfl, h 1 _ rfl, h 2 _ rfl, h 3 _ rfl⟩
    · simp at h0
      have := cell_lt ((hc 0 h0).2 0 _ rfl)
      exact this
    · simp at h0
      have := (hc 0 h0).1
      obtain ⟨b, off, spot⟩ := a
      simp only at this
      rw [this]
    · obtain ⟨j, hj, rfl⟩ := List.mem_map.1 ho
      exact (hfk j (List.mem_range.1 hj)).2
    · simp only [List.length_map, List.length_range]; omega

set_option maxRecDepth 100000 in
theorem open_wide {H : Type} {enc : TypeId × Value → H} {w : World} {base : Nat} {spare : Nat → Bool} {held : Bool} {r : Reach} {b0 : Nat} {v : Value} {d : DataW H} {p : List MemPlace}
    (hv : Value.okWide Try.prog w r b0 35 v) (h : DataW.Trod enc Try.prog w base spare held 35 v d p) :
    ∃ a b : Int, v = .agg #[.int .u64 a, .int .u64 b] ∧ p = [] := by
  obtain ⟨v0, v1, y0, y1, n, rfl, rfl, rfl, h0, h1⟩ := open_agg2 Try.underlying35 (by kernel_rfl) (by kernel_rfl) hv h
  obtain ⟨a, e0, rfl, w0⟩ := DataW.trod_int Try.underlying33 h0
  obtain ⟨b, e1, rfl, w1⟩ := DataW.trod_int Try.underlying33 h1
  simp only [List.cons.injEq, and_true] at e0 e1
  subst e0 e1
  exact ⟨a, b, rfl, rfl⟩

end Go.Proofs.Ytbckppflfgdblaa
