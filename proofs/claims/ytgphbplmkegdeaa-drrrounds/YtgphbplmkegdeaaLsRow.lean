/- How a slice of slices of ints is read as an argument (its type is handed in: T). -/
import Derived.Test.YtgphbplmkegdeaaLs1
import Derived.Test.YtgphbplmkegdeaaInRow
namespace Go.Proofs.Ytgphbplmkegdeaa
open Go.ChangeShapes Go.WideShapes Go.ChangeAt Go.RowKit Go.Joins Go.Deep

theorem weightsAll_mem {H : Type} {P : Program} {e : TypeId} : ∀ {ds : List (DataW H)} {d : DataW H}, d ∈ ds → ∀ n ∈ d.weights P e, n ∈ DataW.weightsAll P e ds
  | d0 :: r, d, h, n, hn => by
    rw [DataW.weightsAll, List.mem_append]
    rcases List.mem_cons.1 h with rfl | h
    · exact .inl hn
    · exact .inr (weightsAll_mem h n hn)
/-- Slices of numbers that came as an argument. -/
structure CameL (w : World) (A : Option Addr) (cap : Nat) (fs : List (List Int)) : Prop where
  lists : ListsIn w A fs
  room : fs.length ≤ cap
  size : cap * 24 + 4096 ≤ 140737488355328
  nil : A = none → fs = [] ∧ cap = 0
  each : ∀ f ∈ fs, f.length * 8 + 4096 ≤ 140737488355328 ∧ ∀ x ∈ f, I64 x
set_option maxRecDepth 100000 in
theorem open_lists {T : TypeId} (hT : Try.prog.underlying T = some (.slice 22)) {H : Type} {enc : TypeId × Value → H} {W : World} {A : Option Addr} {len cap : Nat} {d : DataW H} {p : List MemPlace} {ts : List TypeId} {ds : List (DataW H)} {j : Nat}
    (hsz : (DataW.weightsEach Try.prog ts ds).all (· ≤ reachBytes) = true) (hj : ts[j]? = some T) (hd : ds[j]? = some d) (h : DataW.Trod enc Try.prog W 0 (fun _ => true) true T (.slice A len cap) d p) :
    ∃ fs : List (List Int), fs.length = len ∧ CameL W A cap fs := by
  have hk : Try.prog.cellsOf 22 = 1 := by kernel_rfl
  have hbs : Try.prog.bytesOf 22 = 24 := by kernel_rfl
  obtain ⟨fuel, hf⟩ := h
  rcases open_slice hT hf with ⟨hcs, hx⟩ | ⟨a, len', cap', m, n, D, Pl, hcs, _, hl, hm, hme, hx, hel⟩
  · simp [Value.cells] at hcs
    obtain ⟨rfl, rfl, rfl⟩ := hcs
    exact ⟨[], rfl, ⟨⟨fun h => absurd h (by simp), by decide⟩, Nat.le_refl _, by decide, fun _ => ⟨rfl, rfl⟩, fun f hf => by cases hf⟩⟩
  · simp [Value.cells] at hcs
    obtain ⟨rfl, rfl, rfl⟩ := hcs
    simp only [if_true] at hme
    subst hme
    simp only [Prod.mk.injEq] at hx
    obtain ⟨rfl, -⟩ := hx
    have hmem := List.all_eq_true.1 hsz
    have hin : ∀ n ∈ (DataW.slice ((List.range len).map D) ((List.range (m - len)).map fun j => D (len + j))).weights Try.prog T, n ≤ reachBytes := fun n hn => by
      have := hmem n (DataW.weights_mem_each hj hd n hn)
      simpa using this
    simp only [DataW.weights, hT, hbs] at hin
    have hs0 := hin _ (List.mem_cons_self ..)
    simp only [List.length_map, List.length_range, reachBytes] at hs0
    rw [hk] at hel
    have key : ∀ i, i < len → ∃ q : (Option Addr × Nat) × List Int, W.cell? (a.add i) = some (.slice q.1.1 q.2.length q.1.2) ∧ CameI W q.1.1 q.1.2 q.2 := fun i hi => by
      obtain ⟨cs', h1, h2⟩ := hel i (by omega)
      obtain ⟨-, hlen, hall⟩ := World.cells?_some h1
      obtain ⟨v, rfl⟩ : ∃ v, cs' = [v] := by
        match cs', hlen with
        | [v], _ => exact ⟨v, rfl⟩
      have hc := hall 0 (by decide)
      have hshape : ∃ B l c, v = .slice B l c := by
        rcases open_slice under_ints h2 with ⟨hcs, _⟩ | ⟨a2, l2, c2, m2, n2, D2, P2, hcs, _⟩
        · injection hcs with hcs _
          exact ⟨_, _, _, hcs⟩
        · injection hcs with hcs _
          exact ⟨_, _, _, hcs⟩
      obtain ⟨B, l, c, rfl⟩ := hshape
      obtain ⟨xs, hxs, hC⟩ := open_ints (A := B) (len := l) (cap := c) h2 (fun elems spare e => by
        have hw := hin ((elems.length + spare.length) * Try.prog.bytesOf 3) (List.mem_cons_of_mem _ (List.mem_append_left _ (weightsAll_mem (d := D i) (List.mem_map.2 ⟨i, List.mem_range.2 hi, rfl⟩) _ (by rw [e]; simp [DataW.weights]))))
        rwa [bytes_int] at hw)
      refine ⟨((B, c), xs), ?_, hC⟩
      rw [hxs]
      have hadd : (a.add (i * 1)).add 0 = a.add i := by rw [Nat.mul_one]; unfold Addr.add; split <;> simp_all
      rw [hadd] at hc
      exact hc
    obtain ⟨F, hF⟩ := choose_lt key
    have hspot : 0 < len → a.spot = none := fun h0 => by
      have := (hF 0 h0).1
      simpa [Addr.add] using World.cell?_spot this
    refine ⟨(List.range len).map fun i => (F i).2, by simp, ⟨fun h0 => ?_, by simp; omega⟩, by simpa using hl, by omega, (fun h => by cases h), fun f hf => ?_⟩
    · rw [List.length_map, List.length_range] at h0
      obtain ⟨b, off, spot⟩ := a
      have hs := hspot h0
      simp only at hs
      subst hs
      have hat : ∀ i, i < len → W.cell? ⟨b, off + i, none⟩ = some (.slice (F i).1.1 (F i).2.length (F i).1.2) := fun i hi => by
        have := (hF i hi).1
        rwa [add_plain] at this
      refine ⟨b, off, rfl, World.block_lt_of_cell? _ _ (hat 0 h0), fun j f hf => ?_⟩
      rw [List.getElem?_map, Option.map_eq_some_iff] at hf
      obtain ⟨k, hk, rfl⟩ := hf
      obtain ⟨hj, rfl⟩ := List.getElem?_eq_some_iff.1 hk
      rw [List.length_range] at hj
      rw [List.getElem_range]
      exact ⟨_, _, hat j hj, (hF j hj).2.ints, (hF j hj).2.room⟩
    · obtain ⟨i, hi, rfl⟩ := List.mem_map.1 hf
      have hC := (hF i (List.mem_range.1 hi)).2
      exact ⟨by have := hC.room; have := hC.size; omega, hC.fits⟩
end Go.Proofs.Ytgphbplmkegdeaa
