/- A row of ints of one's own that is filled. -/
import Derived.Test.YtobkepipmmkboaaIn2
namespace Go.Proofs.Ytobkepipmmkboaa
open Go.RowKit Go.Maps

/-- A row of ints of one's own. -/
structure RowI (w wr : World) (g n : Nat) (h : Nat → Int) : Prop where
  below : Below w.heap.size w wr
  far : w.heap.size ≤ g
  row : wr.rowIs g 3 n (fun j => .int .i64 (h j))
namespace RowI
variable {w wr W : World} {g n : Nat} {h : Nat → Int}
theorem seat (I : RowI w wr g n h) {i : Nat} (hi : i < n) : wr.cell? ⟨g, i, none⟩ = some (.int .i64 (h i)) ∧ wr.frozen? ⟨g, i, none⟩ = false := ⟨I.row.cell hi, I.row.frozen i⟩
theorem put (I : RowI w wr g n h) (k : Nat) (x : Int) : RowI w (wr.setCell ⟨g, k, none⟩ (.int .i64 x)) g n (fun j => if j = k then x else h j) :=
  ⟨I.below.setCell I.far _, I.far, (I.row.set k _).congr fun j _ => by
    by_cases c : j = k
    · rw [if_pos c, if_pos c]
    · rw [if_neg c, if_neg c]⟩
theorem later (I : RowI w wr g n h) (hb : Below wr.heap.size wr W) : RowI w W g n h := ⟨I.below.trans (hb.mono I.below.size), I.far, I.row.of_block (hb.block g I.row.lt)⟩
theorem drewN (I : RowI w wr g n h) (q : Nat) : RowI w (wr.drewN q) g n h := I.later (below_drewN (Below.refl _ _) q)
theorem congr (I : RowI w wr g n h) {h' : Nat → Int} (e : ∀ j, j < n → h j = h' j) : RowI w wr g n h' := ⟨I.below, I.far, I.row.congr fun j hj => by rw [e j hj]⟩
theorem ints (I : RowI w wr g n h) (hn : n ≤ 16) : IntsIn wr (some ⟨g, 0, none⟩) ((List.range n).map h) := by
  refine ⟨fun _ => ⟨g, 0, rfl, I.row.lt, fun j x hx => ?_⟩, by simp; omega⟩
  rw [List.getElem?_map, Option.map_eq_some_iff] at hx
  obtain ⟨k, hk, rfl⟩ := hx
  obtain ⟨hj, rfl⟩ := List.getElem?_eq_some_iff.1 hk
  simp at hj
  rw [Nat.zero_add, List.getElem_range]
  exact I.row.cell hj
theorem start {w w1 : World} (hb : Below w.heap.size w w1) (n : Nat) : RowI w (w1.alloc (.cells (madeCells #[.int .i64 0] n) 3)) w1.heap.size n (fun _ => 0) :=
  ⟨hb.alloc hb.size _, hb.size, World.rowIs_made w1 (.int .i64 0) n 3⟩
end RowI
end Go.Proofs.Ytobkepipmmkboaa
