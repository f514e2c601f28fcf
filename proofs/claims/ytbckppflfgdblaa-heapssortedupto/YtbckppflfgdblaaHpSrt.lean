/- slices.Sort, slices.Sorted(slices.Values(s)), slices.Compact over slices of numbers of the call's own. -/
import Derived.Test.YtbckppflfgdblaaHpShelf
import Derived.Test.YtbckppflfgdblaaHpSeq
namespace Go.Proofs.Ytbckppflfgdblaa
open Go.RowKit Go.Sort

def sorted (xs : List Int) : List Int := xs.mergeSort fun x y => decide (x ≤ y)
theorem sorted_length (xs : List Int) : (sorted xs).length = xs.length := by simp [sorted]

theorem put_below {w : World} {B g n : Nat} {d : Array Int} {os : Array Obj} (hB : B ≤ g) (hs : B ≤ w.heap.size) : Below B w (grow (putRow (Value.int .i64) (Sort.ahead w n) g 0 d) os) := by
  refine ⟨rfl, rfl, rfl, by simp, fun k hk => ?_⟩
  rw [heap_grow_old _ _ (by simp; omega)]
  have : g ≠ k := by omega
  simp [putRow, mapBlock, Sort.ahead, Array.getElem?_modify, this]
theorem holds_ints {w : World} {g : Nat} {cur : Array Value} {e : TypeId} {xs : List Int} (hb : w.heap[g]? = some (.cells cur e (0, 0))) (ht : cur.toList.take (xs.length * 1) = ints xs) : Holds (Value.int .i64) w g 0 xs.toArray := by
  intro j hj
  have hj' : j < xs.length := by simpa using hj
  refine ⟨?_, by simp [World.frozen?, hb]⟩
  have h1 : (cur.toList.take (xs.length * 1))[j]? = (ints xs)[j]? := by rw [ht]
  rw [List.getElem?_take_of_lt (by omega)] at h1
  simp only [World.cell?, hb, Nat.zero_add, Option.isSome_none, Bool.false_eq_true, if_false]
  rw [← Array.getElem?_toList, h1]
  simp [ints, hj']
theorem put_take {cur : Array Value} {ts : List Int} (h : ts.length ≤ cur.size) : (putCells (Value.int .i64) 0 ts.toArray cur).toList.take (ts.length * 1) = ints ts := by
  rw [Nat.mul_one]
  apply List.ext_getElem?
  intro j
  by_cases hj : j < ts.length
  · rw [List.getElem?_take_of_lt hj, Array.getElem?_toList]
    simp [putCells, ints, hj, show j < cur.size by omega]
  · rw [List.getElem?_take_eq_none (by omega), List.getElem?_eq_none (by simp [ints]; omega)]
theorem put_block {w : World} {g n : Nat} {os : Array Obj} {cur : Array Value} {e : TypeId} {fr : Nat × Nat} (d : Array Int) (hb : w.heap[g]? = some (.cells cur e fr)) :
    (grow (putRow (Value.int .i64) (Sort.ahead w n) g 0 d) os).heap[g]? = some (.cells (putCells (Value.int .i64) 0 d cur) e fr) := by
  have hg : g < w.heap.size := (Array.getElem?_eq_some_iff.1 hb).1
  rw [heap_grow_old _ _ (by simpa using hg)]
  simp [putRow, mapBlock, Sort.ahead, Array.getElem?_modify, hb, onCells]

theorem sort_ints {B : Nat} {w : World} {v : Value} {xs : List Int} (h : NumsIs 3 B w v xs) (hn : xs.length ≤ 5000000000000) :
    Calls Try.prog 27 #[v] w fun e w' => e = .returned (.tuple #[]) ∧ NumsIs 3 B w' v (sorted xs) ∧ Below B w w' := by
  rcases h.2 with ⟨rfl, h0⟩ | ⟨g, cap, cur, rfl, hB, hg, r1, r2, r3, r4⟩
  · obtain rfl := List.eq_nil_of_length_eq_zero h0
    refine (slices_Sort_int_none none 0 w).mono ?_
    rintro e w' ⟨rfl, rfl⟩
    exact ⟨rfl, by simpa [sorted] using h, Below.refl _ _⟩
  · have hgl : g < w.heap.size := (Array.getElem?_eq_some_iff.1 hg).1
    refine (slices_Sort_int g 0 cap xs w (holds_ints hg r4) hgl (by omega)).mono ?_
    rintro e w' ⟨rfl, n, os, rfl⟩
    have hl := sorted_length xs
    refine ⟨rfl, ⟨by simp [ints], .inr ⟨g, cap, _, by rw [hl], hB, put_block _ hg, by omega, r2, by simp [putCells, r3], put_take (by omega)⟩⟩, put_below hB (by omega)⟩

theorem compact_ints {B : Nat} {w : World} {v : Value} {ys : List Int} (h : NumsIs 3 B w v ys) (hn : ys.length ≤ 5000000000000) :
    Calls Try.prog 17 #[v] w fun e w' => ∃ A cap, e = .returned (.slice A (Lib.compact ys).length cap) ∧ Below B w w' := by
  rcases h.2 with ⟨rfl, h0⟩ | ⟨g, cap, cur, rfl, hB, hg, r1, r2, r3, r4⟩
  · obtain rfl := List.eq_nil_of_length_eq_zero h0
    refine (slices_Compact_int_empty none 0 w).mono ?_
    rintro e w' ⟨rfl, rfl⟩
    exact ⟨none, 0, rfl, Below.refl _ _⟩
  · have hgl : g < w.heap.size := (Array.getElem?_eq_some_iff.1 hg).1
    refine (slices_Compact_int g 0 cap ys w (holds_ints hg r4) (by omega) r1).mono ?_
    rintro e w' ⟨rfl, q, rfl⟩
    have := put_below (w := w) (n := q) (d := (Lib.compact ys ++ List.replicate (ys.length - (Lib.compact ys).length) 0).toArray) (os := #[]) hB (by omega)
    rw [grow_empty] at this
    exact ⟨_, _, rfl, this⟩

set_option maxHeartbeats 1000000 in
theorem sorted_ints {Bs cap : Nat} {A : Option Addr} {xs : List Int} (hreach : xs.length ≤ 5000000000000) {w : World} (hBs : Bs < w.heap.size) (hc : w.cell? ⟨Bs, 0, none⟩ = some (.slice A xs.length cap)) (hI : LowInts w.heap.size w A xs) :
    Calls Try.prog 14 #[.func (.func 28) #[] #[.pointer (some ⟨Bs, 0, none⟩)]] w fun e W' => ∃ v, e = .returned v ∧ NumsIs 3 w.heap.size W' v (sorted xs) ∧ Below w.heap.size w W' := by
  have HC := Lib.hid (collect_ints hreach hBs hc hI)
  have HR := Lib.hid hreach
  clear hc hI hreach
  go_enter Try.func14, Try.ntmps14
  go_wp2_with fail
  refine HC.out.mono ?_
  rintro e w1 ⟨v, rfl, h1, h2⟩
  have HS := Lib.hid (sort_ints h1 HR.out)
  have HB := Lib.hid h2
  clear h1 h2
  go_wp2_with fail
  refine HS.out.mono ?_
  rintro e w2 ⟨rfl, h3, h4⟩
  have HX := Lib.hid (And.intro h3 (HB.out.trans h4))
  clear h3 h4
  go_wp2
  go_ret
  exact ⟨v, rfl, HX.out⟩

end Go.Proofs.Ytbckppflfgdblaa
