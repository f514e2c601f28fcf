/- How arguments that are prefixes and addresses, and slices of anything, are read: helpers for the rows. -/
import Derived.Test.YtandfbepenjbhaaTr1a
import Derived.ProofKit
import Derived.SizedLaws
import Derived.Carry
import Derived.Lib.SmallJoins
import Derived.Lib.RowBridge
import Derived.Deep.Strs
import Derived.Deep.Slices
import Derived.Laws.IdiomArrays
namespace Go.Proofs.Ytandfbepenjbhaa
open Go.ChangeShapes Go.WideShapes Go.ChangeAt Go.RowKit Go.Joins Go.Deep

theorem Try.own : ownKnob Try.prog.godebug = none := by kernel_rfl
theorem laidOut : laidOutB Try.prog = true := by kernel_rfl
theorem cells_u8 : Try.prog.cellsOf 5 = 1 := by kernel_rfl
theorem cells_int : Try.prog.cellsOf 3 = 1 := by kernel_rfl
theorem cells_arr : Try.prog.cellsOf 23 = 4 := by kernel_rfl
theorem cells_pf : Try.prog.cellsOf 51 = 6 := by kernel_rfl
theorem bytes_arr : Try.prog.bytesOf 23 = 4 := by kernel_rfl
theorem bytes_pf : Try.prog.bytesOf 51 = 24 := by kernel_rfl
theorem byte_of_wf {x : Int} (h : (Lit.int .u8 x).wf = true) : Byte x := by
  simp [Lit.wf, IntKind.min, IntKind.max, IntKind.signed, IntKind.bits] at h
  exact ⟨by omega, by omega⟩
theorem len4 {α : Type} {l : List α} (h : l.length = 4) : ∃ a b c d, l = [a, b, c, d] := by
  match l, h with
  | [a, b, c, d], _ => exact ⟨a, b, c, d, rfl⟩
theorem len6 {α : Type} {l : List α} (h : l.length = 6) : ∃ a b c d e f, l = [a, b, c, d, e, f] := by
  match l, h with
  | [a, b, c, d, e, f], _ => exact ⟨a, b, c, d, e, f, rfl⟩
theorem trod_ad {H : Type} {enc : TypeId × Value → H} {w : World} {base : Nat} {spare : Nat → Bool} {held : Bool} {n : Nat} {cs : List Value} (hl : cs.length = 4) {x : DataW H × List MemPlace}
    (h : DataW.trod enc Try.prog w base spare held n 23 cs = some x) : ∃ a : Ad, cs = a.cells ∧ a.Ok ∧ x.2 = [] := by
  obtain ⟨c0, c1, c2, c3, rfl⟩ := len4 hl
  obtain ⟨y0, y1, y2, y3, m, rfl, h0, h1, h2, h3⟩ := trod_array4 Try.underlying23 cells_u8 h
  obtain ⟨a, e0, rfl, w0⟩ := DataW.trod_int Try.underlying5 h0
  obtain ⟨b, e1, rfl, w1⟩ := DataW.trod_int Try.underlying5 h1
  obtain ⟨c, e2, rfl, w2⟩ := DataW.trod_int Try.underlying5 h2
  obtain ⟨d, e3, rfl, w3⟩ := DataW.trod_int Try.underlying5 h3
  simp only [List.cons.injEq, and_true] at e0 e1 e2 e3
  exact ⟨⟨a, b, c, d⟩, by rw [e0, e1, e2, e3]; rfl, ⟨byte_of_wf w0, byte_of_wf w1, byte_of_wf w2, byte_of_wf w3⟩, rfl⟩
theorem trod_pf {H : Type} {enc : TypeId × Value → H} {w : World} {base : Nat} {spare : Nat → Bool} {held : Bool} {n : Nat} {cs : List Value} {x : DataW H × List MemPlace}
    (h : DataW.trod enc Try.prog w base spare held n 51 cs = some x) : ∃ p : Pf, cs = p.cells ∧ p.ad.Ok ∧ x.2 = [] := by
  obtain ⟨y0, y1, y2, n1, hx, hl, h0, h1, h2⟩ := trod_struct3 Try.underlying51 h
  rw [cells_pf] at hl
  clear h
  obtain ⟨c0, c1, c2, c3, c4, c5, rfl⟩ := len6 hl
  rw [cells_int] at h1 h2
  rw [cells_arr] at h0
  obtain ⟨a, ea, ha, za⟩ := trod_ad rfl h0
  obtain ⟨b, e1, rfl, -⟩ := DataW.trod_int Try.underlying3 h1
  obtain ⟨t, e2, rfl, -⟩ := DataW.trod_int Try.underlying3 h2
  clear h0 h1 h2 hl
  refine ⟨⟨a, b, t⟩, ?_, ha, ?_⟩
  · obtain ⟨a0, a1, a2, a3⟩ := a
    simp [Ad.cells] at ea
    simp at e1 e2
    rw [ea.1, ea.2.1, ea.2.2.1, ea.2.2.2, e1, e2]; rfl
  · rw [hx]
    simp [za]
set_option maxRecDepth 100000 in
theorem open_pf {H : Type} {enc : TypeId × Value → H} {w : World} {base : Nat} {spare : Nat → Bool} {held : Bool} {r : Reach} {b0 : Nat} {v : Value} {d : DataW H} {p : List MemPlace}
    (hv : Value.okWide Try.prog w r b0 51 v) (h : DataW.Trod enc Try.prog w base spare held 51 v d p) : ∃ x : Pf, v = .agg x.cells.toArray ∧ x.ad.Ok ∧ p = [] := by
  obtain ⟨cs, rfl, hsz⟩ := okWide_struct Try.underlying51 hv
  obtain ⟨cs⟩ := cs
  obtain ⟨fuel, hf⟩ := h
  obtain ⟨x, e, hx, hp⟩ := trod_pf hf
  have e2 : cs = x.cells := e
  exact ⟨x, by rw [e2], hx, hp⟩
set_option maxRecDepth 100000 in
theorem open_ad {H : Type} {enc : TypeId × Value → H} {w : World} {base : Nat} {spare : Nat → Bool} {held : Bool} {r : Reach} {b0 : Nat} {v : Value} {d : DataW H} {p : List MemPlace}
    (hv : Value.okWide Try.prog w r b0 23 v) (h : DataW.Trod enc Try.prog w base spare held 23 v d p) : ∃ x : Ad, v = .agg x.cells.toArray ∧ x.Ok ∧ p = [] := by
  simp only [Value.okWide, Try.underlying23] at hv
  obtain ⟨cs, rfl, hsz, _⟩ := hv
  obtain ⟨cs⟩ := cs
  obtain ⟨fuel, hf⟩ := h
  obtain ⟨x, e, hx, hp⟩ := trod_ad (hsz.trans cells_arr) hf
  have e2 : cs = x.cells := e
  exact ⟨x, by rw [e2], hx, hp⟩

/-- A slice whose elements are k cells each. -/
theorem open_rows {α : Type} [Inhabited α] {H : Type} {enc : TypeId × Value → H} {W : World} {A : Option Addr} {len cap : Nat} {d : DataW H} {p : List MemPlace} {T E : TypeId} {k bytes : Nat} (hu : Try.prog.underlying T = some (.slice E)) (hk : Try.prog.cellsOf E = k) (h0k : 0 < k) (c : α → List Value) (good : α → Prop)
    (dec : ∀ n cs (x : DataW H × List MemPlace), cs.length = k → DataW.trod enc Try.prog W 0 (fun _ => true) true n E cs = some x → ∃ a, cs = c a ∧ good a)
    (h : DataW.Trod enc Try.prog W 0 (fun _ => true) true T (.slice A len cap) d p)
    (hsize : ∀ elems spare, d = .slice elems spare → (elems.length + spare.length) * bytes ≤ reachBytes) :
    ∃ xs : List α, xs.length = len ∧ len ≤ cap ∧ cap * bytes + 4096 ≤ 140737488355328 ∧ (A = none → len = 0 ∧ cap = 0) ∧ (∀ a ∈ xs, good a) ∧
      (0 < len → ∃ b off, A = some ⟨b, off, none⟩ ∧ b < W.heap.size ∧ ∀ j a i, xs[j]? = some a → i < k → W.cell? ⟨b, off + j * k + i, none⟩ = (c a)[i]?) := by
  obtain ⟨fuel, hf⟩ := h
  rcases open_slice hu hf with ⟨hcs, hx⟩ | ⟨a, len', cap', m, n, D, Pl, hcs, _, hl, hm, hme, hx, hel⟩
  · simp [Value.cells] at hcs
    obtain ⟨rfl, rfl, rfl⟩ := hcs
    exact ⟨[], rfl, Nat.le_refl _, by omega, (fun _ => ⟨rfl, rfl⟩), (fun a ha => by cases ha), fun h => absurd h (by omega)⟩
  · simp [Value.cells] at hcs
    obtain ⟨rfl, rfl, rfl⟩ := hcs
    simp only [if_true] at hme
    subst hme
    simp only [Prod.mk.injEq] at hx
    have hsz := hsize _ _ hx.1
    simp only [List.length_map, List.length_range, reachBytes] at hsz
    rw [hk] at hel
    have key : ∀ i, i < len → ∃ x : α, (∀ j, j < k → W.cell? ((a.add (i * k)).add j) = (c x)[j]?) ∧ (c x).length = k ∧ good x := fun i hi => by
      obtain ⟨cs', h1, h2⟩ := hel i (by omega)
      obtain ⟨-, hlen, hall⟩ := World.cells?_some h1
      obtain ⟨x, rfl, hx⟩ := dec _ _ _ hlen h2
      exact ⟨x, hall, hlen, hx⟩
    obtain ⟨f, hfk⟩ := choose_lt key
    have hspot : 0 < len → a.spot = none := fun h0 => by
      have := (hfk 0 h0).1 0 h0k
      have hlen := (hfk 0 h0).2.1
      rw [List.getElem?_eq_getElem (by omega)] at this
      simpa [Addr.add] using World.cell?_spot this
    have hat : ∀ j x, ((List.range len).map f)[j]? = some x → j < len ∧ x = f j := fun j o ho => by
      rw [List.getElem?_map] at ho
      rcases Nat.lt_or_ge j len with hj | hj
      · rw [List.getElem?_range hj] at ho
        simp at ho
        exact ⟨hj, ho.symm⟩
      · rw [List.getElem?_eq_none (by simpa using hj)] at ho
        cases ho
    refine ⟨(List.range len).map f, by simp, hl, by rw [Nat.add_sub_cancel' hl] at hsz; omega, (fun h => by cases h), fun x hx => ?_, fun h0 => ?_⟩
    · obtain ⟨j, hj, rfl⟩ := List.mem_map.1 hx
      exact (hfk j (List.mem_range.1 hj)).2.2
    · obtain ⟨b, off, spot⟩ := a
      have hs := hspot h0
      simp only at hs
      subst hs
      have hc : ∀ j, j < len → ∀ i, i < k → W.cell? ⟨b, off + j * k + i, none⟩ = (c (f j))[i]? := fun j hj i hi => by
        have := (hfk j hj).1 i hi
        rw [add_plain, add_plain] at this
        exact this
      refine ⟨b, off, rfl, ?_, fun j x i hx hi => ?_⟩
      · have := hc 0 h0 0 h0k
        have hlen := (hfk 0 h0).2.1
        rw [List.getElem?_eq_getElem (by omega)] at this
        exact World.block_lt_of_cell? _ _ this
      · obtain ⟨hj, rfl⟩ := hat j x hx
        exact hc j hj i hi

end Go.Proofs.Ytandfbepenjbhaa
