/- How arguments are read: ints, flat structs of ints, slices of them: helpers for the rows. -/
import Derived.Test.YtobkepipmmkboaaIn2
import Derived.ProofKit
import Derived.SizedLaws
import Derived.Carry
import Derived.Lib.SmallJoins
import Derived.Lib.RowBridge
import Derived.Deep.Strs
import Derived.Deep.Slices
import Derived.Laws.IdiomArrays
namespace Go.Proofs.Ytobkepipmmkboaa
open Go.ChangeShapes Go.WideShapes Go.ChangeAt Go.RowKit Go.Joins Go.Deep

theorem Try.own : ownKnob Try.prog.godebug = none := by kernel_rfl
theorem laidOut : laidOutB Try.prog = true := by kernel_rfl
theorem cells_int : Try.prog.cellsOf 3 = 1 := by kernel_rfl
theorem bytes_int : Try.prog.bytesOf 3 = 8 := by kernel_rfl
def I64 (x : Int) : Prop := -9223372036854775808 ≤ x ∧ x ≤ 9223372036854775807
theorem i64_of_wf {x : Int} (h : (Lit.int .i64 x).wf = true) : I64 x := by
  simp [Lit.wf, IntKind.min, IntKind.max, IntKind.signed, IntKind.bits] at h
  exact ⟨by omega, by omega⟩

/-- The fields of a struct are k ints, one behind the other. -/
def flatB (fs : Array Field) (k : Nat) : Bool := fs.size == k && (List.range k).all fun i => match fs[i]? with | some f => f.type == 3 && f.offset == i | none => false
theorem flatB_at {fs : Array Field} {k : Nat} (h : flatB fs k = true) {i : Nat} (hi : i < k) : ∃ f, fs[i]? = some f ∧ f.type = 3 ∧ f.offset = i := by
  unfold flatB at h
  rw [Bool.and_eq_true] at h
  have := List.all_eq_true.1 h.2 i (List.mem_range.2 hi)
  cases hf : fs[i]? with
  | none => rw [hf] at this; cases this
  | some f =>
    rw [hf] at this
    simp only [Bool.and_eq_true, beq_iff_eq] at this
    exact ⟨f, rfl, this.1, this.2⟩
theorem trod_flat {T : TypeId} {fs : Array Field} {k : Nat} (ht : Try.prog.underlying T = some (.struct fs)) (hk : Try.prog.cellsOf T = k) (hf : flatB fs k = true) {H : Type} {enc : TypeId × Value → H} {w : World} {base : Nat} {spare : Nat → Bool} {held : Bool} {n : Nat} {cs : List Value} {x : DataW H × List MemPlace}
    (h : DataW.trod enc Try.prog w base spare held n T cs = some x) : ∃ a : List Int, a.length = k ∧ cs = i64s a ∧ (∀ y ∈ a, I64 y) ∧ x.2 = [] := by
  obtain ⟨xs, m, -, hx, hl, hlen, hff⟩ := DataW.trod_struct ht h
  rw [hk] at hl
  have hsz : fs.size = k := by
    unfold flatB at hf
    rw [Bool.and_eq_true] at hf
    simpa using hf.1
  have key : ∀ i, i < k → ∃ a : Int, cs[i]? = some (.int .i64 a) ∧ I64 a ∧ ∃ y, xs[i]? = some y ∧ y.2 = [] := fun i hi => by
    obtain ⟨f, hfi, hty, hof⟩ := flatB_at hf hi
    have h1 := hff i f hfi
    rw [hty, hof, cells_int] at h1
    have hxi : xs[i]? = some xs[i] := List.getElem?_eq_getElem (by omega)
    rw [hxi] at h1
    obtain ⟨a, e, he, wf⟩ := DataW.trod_int Try.underlying3 h1
    refine ⟨a, ?_, i64_of_wf wf, _, hxi, by rw [he]⟩
    have : (cs.drop i).take 1 = [cs[i]'(by omega)] := by
      rw [List.drop_eq_getElem_cons (by omega)]; rfl
    rw [this] at e
    rw [List.getElem?_eq_getElem (by omega)]
    simpa using e
  obtain ⟨f, hfk⟩ := choose_lt (fun i hi => (key i hi).imp fun a h => h)
  have hat : ∀ i, i < k → cs[i]? = some (.int .i64 (f i)) := fun i hi => (hfk i hi).1
  refine ⟨(List.range k).map f, by simp, ?_, fun y hy => ?_, ?_⟩
  · apply List.ext_getElem?
    intro i
    rcases Nat.lt_or_ge i k with hi | hi
    · rw [hat i hi]
      simp [i64s, hi]
    · rw [List.getElem?_eq_none (by omega), List.getElem?_eq_none (by simp [i64s]; omega)]
  · obtain ⟨j, hj, rfl⟩ := List.mem_map.1 hy
    exact (hfk j (List.mem_range.1 hj)).2.1
  · rw [hx]
    simp only [List.flatMap_eq_nil_iff]
    intro y hy
    obtain ⟨i, hi⟩ := List.mem_iff_getElem?.1 hy
    have hik : i < k := by
      have := (List.getElem?_eq_some_iff.1 hi).1
      omega
    obtain ⟨_, _, y', hy', hz⟩ := hfk i hik
    rw [hi] at hy'
    injection hy' with hy'
    rw [hy']; exact hz
set_option maxRecDepth 100000 in
/-- A flat struct of k ints, as an argument. -/
theorem open_flat {T : TypeId} {fs : Array Field} {k : Nat} (ht : Try.prog.underlying T = some (.struct fs)) (hk : Try.prog.cellsOf T = k) (hf : flatB fs k = true) {H : Type} {enc : TypeId × Value → H} {w : World} {base : Nat} {spare : Nat → Bool} {held : Bool} {r : Reach} {b0 : Nat} {v : Value} {d : DataW H} {p : List MemPlace}
    (hv : Value.okWide Try.prog w r b0 T v) (h : DataW.Trod enc Try.prog w base spare held T v d p) : ∃ a : List Int, v = .agg (i64s a).toArray ∧ a.length = k ∧ (∀ y ∈ a, I64 y) ∧ p = [] := by
  obtain ⟨cs, rfl, hsz⟩ := okWide_struct ht hv
  obtain ⟨cs⟩ := cs
  obtain ⟨fuel, hf'⟩ := h
  obtain ⟨a, hl, e, ha, hp⟩ := trod_flat ht hk hf hf'
  have e2 : cs = i64s a := e
  exact ⟨a, by rw [e2], hl, ha, hp⟩

/-- A slice whose elements are k cells each. -/
theorem open_rows {α : Type} [Inhabited α] {H : Type} {enc : TypeId × Value → H} {W : World} {A : Option Addr} {len cap : Nat} {d : DataW H} {p : List MemPlace} {T E : TypeId} {k bytes : Nat} (hu : Try.prog.underlying T = some (.slice E)) (hk : Try.prog.cellsOf E = k) (h0k : 0 < k) (c : α → List Value) (good : α → Prop)
    (dec : ∀ n cs (x : DataW H × List MemPlace), cs.length = k → DataW.trod enc Try.prog W 0 (fun _ => true) true n E cs = some x → ∃ a, cs = c a ∧ good a)
    {fuel : Nat} (hf : DataW.trod enc Try.prog W 0 (fun _ => true) true fuel T (Value.slice A len cap).cells.toList = some (d, p))
    (hsize : ∀ elems spare, d = .slice elems spare → (elems.length + spare.length) * bytes ≤ reachBytes) :
    ∃ xs : List α, xs.length = len ∧ len ≤ cap ∧ cap * bytes + 4096 ≤ 140737488355328 ∧ (A = none → len = 0 ∧ cap = 0) ∧ (∀ a ∈ xs, good a) ∧
      (0 < len → ∃ b off, A = some ⟨b, off, none⟩ ∧ b < W.heap.size ∧ ∀ j a i, xs[j]? = some a → i < k → W.cell? ⟨b, off + j * k + i, none⟩ = (c a)[i]?) := by
  rcases open_slice hu hf with ⟨hcs, hx⟩ | ⟨a, len', cap', m, n, D, Pl, hcs, _, hl, hm, hme, hx, hel⟩
  · simp [Value.cells] at hcs
    obtain ⟨rfl, rfl, rfl⟩ := hcs
    exact ⟨[], rfl, Nat.le_refl _, by omega, (fun _ => ⟨rfl, rfl⟩), (fun a ha => by cases ha), fun h => absurd h (by omega)⟩
  · simp [Value.cells] at hcs
    obtain ⟨rfl, rfl, rfl⟩ := hcs
    simp only [if_true] at hme
    subst hme
    simp only [Prod.mk.injEq] at hx
    have hsz := hsize _ _ hx.1
    simp only [List.length_map, List.length_range, reachBytes] at hsz
    rw [hk] at hel
    have key : ∀ i, i < len → ∃ x : α, (∀ j, j < k → W.cell? ((a.add (i * k)).add j) = (c x)[j]?) ∧ (c x).length = k ∧ good x := fun i hi => by
      obtain ⟨cs', h1, h2⟩ := hel i (by omega)
      obtain ⟨-, hlen, hall⟩ := World.cells?_some h1
      obtain ⟨x, rfl, hx⟩ := dec _ _ _ hlen h2
      exact ⟨x, hall, hlen, hx⟩
    obtain ⟨f, hfk⟩ := choose_lt key
    have hspot : 0 < len → a.spot = none := fun h0 => by
      have := (hfk 0 h0).1 0 h0k
      have hlen := (hfk 0 h0).2.1
      rw [List.getElem?_eq_getElem (by omega)] at this
      simpa [Addr.add] using World.cell?_spot this
    have hat : ∀ j x, ((List.range len).map f)[j]? = some x → j < len ∧ x = f j := fun j o ho => by
      rw [List.getElem?_map] at ho
      rcases Nat.lt_or_ge j len with hj | hj
      · rw [List.getElem?_range hj] at ho
        simp at ho
        exact ⟨hj, ho.symm⟩
      · rw [List.getElem?_eq_none (by simpa using hj)] at ho
        cases ho
    refine ⟨(List.range len).map f, by simp, hl, by rw [Nat.add_sub_cancel' hl] at hsz; omega, (fun h => by cases h), fun x hx => ?_, fun h0 => ?_⟩
    · obtain ⟨j, hj, rfl⟩ := List.mem_map.1 hx
      exact (hfk j (List.mem_range.1 hj)).2.2
    · obtain ⟨b, off, spot⟩ := a
      have hs := hspot h0
      simp only at hs
      subst hs
      have hc : ∀ j, j < len → ∀ i, i < k → W.cell? ⟨b, off + j * k + i, none⟩ = (c (f j))[i]? := fun j hj i hi => by
        have := (hfk j hj).1 i hi
        rw [add_plain, add_plain] at this
        exact this
      refine ⟨b, off, rfl, ?_, fun j x i hx hi => ?_⟩
      · have := hc 0 h0 0 h0k
        have hlen := (hfk 0 h0).2.1
        rw [List.getElem?_eq_getElem (by omega)] at this
        exact World.block_lt_of_cell? _ _ this
      · obtain ⟨hj, rfl⟩ := hat j x hx
        exact hc j hj i hi

/-- Numbers that came as an argument. -/
structure CameI (w : World) (A : Option Addr) (cap : Nat) (xs : List Int) : Prop where
  ints : IntsIn w A xs
  room : xs.length ≤ cap
  size : cap * 8 + 4096 ≤ 140737488355328
  nil : A = none → xs = [] ∧ cap = 0
  fits : ∀ x ∈ xs, I64 x
theorem open_ints {H : Type} {enc : TypeId × Value → H} {W : World} {A : Option Addr} {len cap : Nat} {d : DataW H} {p : List MemPlace} {fuel : Nat} (hf : DataW.trod enc Try.prog W 0 (fun _ => true) true fuel 22 (Value.slice A len cap).cells.toList = some (d, p))
    (hsize : ∀ elems spare, d = .slice elems spare → (elems.length + spare.length) * 8 ≤ reachBytes) : ∃ xs : List Int, xs.length = len ∧ CameI W A cap xs := by
  obtain ⟨xs, h1, h2, h3, h4, h5, h6⟩ := open_rows under_ints cells_int (by decide) (fun x : Int => [.int .i64 x]) I64 (fun n cs x hl hx => by
    obtain ⟨a, e, _, wf⟩ := DataW.trod_int Try.underlying3 hx
    exact ⟨a, e, i64_of_wf wf⟩) hf hsize
  refine ⟨xs, h1, ⟨fun h0 => ?_, by omega⟩, by omega, h3, fun e => ?_, h5⟩
  · obtain ⟨b, off, e, hb, hc⟩ := h6 (by omega)
    refine ⟨b, off, e, hb, fun j x hx => ?_⟩
    have := hc j x 0 hx (by decide)
    rwa [Nat.mul_one] at this
  · obtain ⟨e1, e2⟩ := h4 e
    exact ⟨List.eq_nil_of_length_eq_zero (by omega), e2⟩
theorem bulk_pos {H : Type} (d : DataW H) : 1 ≤ Rows.uptoBulk d := by
  cases d with
  | lit l => cases l <;> simp [Rows.uptoBulk]
  | _ => simp [Rows.uptoBulk]
theorem bulk_len {H : Type} (ds : List (DataW H)) : ds.length ≤ Rows.uptoBulkAll ds := by
  induction ds with
  | nil => simp [Rows.uptoBulkAll]
  | cons d r ih =>
    have := bulk_pos d
    simp only [Rows.uptoBulkAll, List.length_cons]
    omega
/-- A slice is no longer than its reading's bulk. -/
theorem bulk_slice {T E : TypeId} (hu : Try.prog.underlying T = some (.slice E)) {H : Type} {enc : TypeId × Value → H} {W : World} {A : Option Addr} {len cap : Nat} {d : DataW H} {p : List MemPlace} (h : DataW.Trod enc Try.prog W 0 (fun _ => true) true T (.slice A len cap) d p) : len ≤ Rows.uptoBulk d := by
  obtain ⟨fuel, hf⟩ := h
  rcases open_slice hu hf with ⟨hcs, hx⟩ | ⟨a, len', cap', m, n, D, Pl, hcs, _, hl, hm, hme, hx, hel⟩
  · simp [Value.cells] at hcs
    omega
  · simp [Value.cells] at hcs
    obtain ⟨rfl, rfl, rfl⟩ := hcs
    simp only [Prod.mk.injEq] at hx
    rw [hx.1]
    have := bulk_len ((List.range len).map D)
    simp only [Rows.uptoBulk]
    rw [List.length_map, List.length_range] at this
    omega
theorem open_intsT {H : Type} {enc : TypeId × Value → H} {W : World} {A : Option Addr} {len cap : Nat} {d : DataW H} {p : List MemPlace} (h : DataW.Trod enc Try.prog W 0 (fun _ => true) true 22 (.slice A len cap) d p)
    (hsize : ∀ elems spare, d = .slice elems spare → (elems.length + spare.length) * 8 ≤ reachBytes) : ∃ xs : List Int, xs.length = len ∧ CameI W A cap xs := by
  obtain ⟨fuel, hf⟩ := h
  exact open_ints hf hsize
end Go.Proofs.Ytobkepipmmkboaa
