/- Bytes of the call's own. -/
import Derived.Test.YtmigfemkbdehbaaSm2
import Derived.Deep.OwnRows
import Derived.Maps.AppendAt
import Derived.Lib.SliceRun
import Derived.Lib.AppendZeros
namespace Go.Proofs.Ytmigfemkbdehbaa
open Go.RowKit Go.Maps

def u8s (bs : List Int) : List Value := bs.map (Value.int .u8)
theorem u8s_length (bs : List Int) : (u8s bs).length = bs.length := by simp [u8s]
theorem u8s_append (a b : List Int) : u8s (a ++ b) = u8s a ++ u8s b := by simp [u8s]
theorem u8s_at {bs : List Int} {j : Nat} {x : Int} (h : bs[j]? = some x) : (u8s bs)[j]? = some (.int .u8 x) := by simp [u8s, h]
theorem u8s_back {bs : List Int} {j : Nat} {u : Value} (h : (u8s bs)[j]? = some u) : ∃ x, bs[j]? = some x ∧ u = .int .u8 x := by
  simp only [u8s, List.getElem?_map, Option.map_eq_some_iff] at h
  obtain ⟨x, h1, h2⟩ := h
  exact ⟨x, h1, h2.symm⟩
theorem u8s_one (bs : List Int) : ∀ u ∈ u8s bs, u.oneCell' = true := by
  intro u hu
  simp only [u8s, List.mem_map] at hu
  obtain ⟨x, _, rfl⟩ := hu
  rfl

theorem lies_lit (w : World) (bs : List Int) (hb : Bytes bs) (hl : bs.length ≤ 281474976710656) : Lies (w.alloc (.cells (u8s bs).toArray 5)) (some ⟨w.heap.size, 0, none⟩) bs := by
  refine ⟨fun _ => ⟨w.heap.size, 0, rfl, by simp, fun j x hx => ?_⟩, hb, hl⟩
  rw [cell_of_row _ w.heap.size _ _ _ _ (heap_alloc_new w _), Nat.zero_add]
  simpa using u8s_at hx
end Go.Proofs.Ytmigfemkbdehbaa
