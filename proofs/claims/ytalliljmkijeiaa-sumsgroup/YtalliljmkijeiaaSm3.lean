/- The check 'alive' of package sums' laws returns true; bytes of the call's own. -/
import Derived.Test.YtalliljmkijeiaaSm2
import Derived.Deep.OwnRows
import Derived.Maps.AppendAt
import Derived.Lib.SliceRun
import Derived.Lib.AppendZeros
namespace Go.Proofs.Ytalliljmkijeiaa
open Go.RowKit Go.Maps

def u8s (bs : List Int) : List Value := bs.map (Value.int .u8)
theorem u8s_length (bs : List Int) : (u8s bs).length = bs.length := by simp [u8s]
theorem u8s_append (a b : List Int) : u8s (a ++ b) = u8s a ++ u8s b := by simp [u8s]
theorem u8s_at {bs : List Int} {j : Nat} {x : Int} (h : bs[j]? = some x) : (u8s bs)[j]? = some (.int .u8 x) := by simp [u8s, h]
theorem u8s_back {bs : List Int} {j : Nat} {u : Value} (h : (u8s bs)[j]? = some u) : ∃ x, bs[j]? = some x ∧ u = .int .u8 x := by
  simp only [u8s, List.getElem?_map, Option.map_eq_some_iff] at h
  obtain ⟨x, h1, h2⟩ := h
  exact ⟨x, h1, h2.symm⟩
theorem u8s_one (bs : List Int) : ∀ u ∈ u8s bs, u.oneCell' = true := by
  intro u hu
  simp only [u8s, List.mem_map] at hu
  obtain ⟨x, _, rfl⟩ := hu
  rfl

theorem lies_lit (w : World) (bs : List Int) (hb : Bytes bs) (hl : bs.length ≤ 281474976710656) : Lies (w.alloc (.cells (u8s bs).toArray 5)) (some ⟨w.heap.size, 0, none⟩) bs := by
  refine ⟨fun _ => ⟨w.heap.size, 0, rfl, by simp, fun j x hx => ?_⟩, hb, hl⟩
  rw [cell_of_row _ w.heap.size _ _ _ _ (heap_alloc_new w _), Nat.zero_add]
  simpa using u8s_at hx
theorem bytes4 : Bytes [255, 255, 0, 2] := by
  intro x hx
  simp only [List.mem_cons, List.not_mem_nil, or_false] at hx
  unfold Byte
  omega
theorem bytes1 : Bytes [1] := by
  intro x hx
  simp only [List.mem_cons, List.not_mem_nil, or_false] at hx
  unfold Byte
  omega

set_option maxRecDepth 100000 in
set_option maxHeartbeats 1000000 in
theorem alive4_any (w : World) : Calls Try.prog 15 #[] w fun e w' => e = .returned (.bool true) ∧ Below w.heap.size w w' := by
  have H1 : Hid (Calls Try.prog 10 #[.slice (some ⟨w.heap.size, 0, none⟩) 4 4] (w.alloc (.cells #[.int .u8 255, .int .u8 255, .int .u8 0, .int .u8 2] 5)) fun e w' => e = .returned (.int .u16 2) ∧ (w.alloc (.cells #[.int .u8 255, .int .u8 255, .int .u8 0, .int .u8 2] 5)) = w') := Lib.hid (of_any (lies_lit w [255, 255, 0, 2] bytes4 (by decide)) 4)
  have H2 : Hid (∀ w : World, Calls Try.prog 12 #[.slice (some ⟨w.heap.size, 0, none⟩) 1 1] (w.alloc (.cells #[.int .u8 1] 5)) fun e w' => e = .returned (.int .u16 65279) ∧ (w.alloc (.cells #[.int .u8 1] 5)) = w') := Lib.hid (fun w => check_any (lies_lit w [1] bytes1 (by decide)) 1)
  have H3 : Hid (∀ w : World, Calls Try.prog 11 #[.int .u16 65535, .int .u16 1] w fun e w' => e = .returned (.int .u16 1) ∧ w = w') := Lib.hid (fun w => add_any (by unfold Half; omega) (by unfold Half; omega) w)
  have H4 : Hid (∀ w : World, Calls Try.prog 14 #[.int .u16 0, .int .u16 65535] w fun e w' => e = .returned (.bool true) ∧ w = w') := Lib.hid (fun w => same_any 0 65535 w)
  have H5 : Hid (∀ w : World, Calls Try.prog 14 #[.int .u16 0, .int .u16 1] w fun e w' => e = .returned (.bool false) ∧ w = w') := Lib.hid (fun w => same_any 0 1 w)
  have H6 : Hid (∀ w : World, Calls Try.prog 13 #[.int .u16 65534, .int .u16 1, .int .u16 2] w fun e w' => e = .returned (.int .u16 65533) ∧ w = w') := Lib.hid (fun w => turn_any (by unfold Half; omega) (by unfold Half; omega) (by unfold Half; omega) w)
  go_enter Try.func15, Try.ntmps15
  go_wp2_with fail
  refine H1.out.mono ?_
  rintro e w1 ⟨rfl, hw1⟩
  have hb1 : Below w.heap.size w w1 := hw1 ▸ (Below.refl _ _).alloc (Nat.le_refl _) _
  clear hw1 H1
  go_wp2_with fail
  refine (H2.out _).mono ?_
  rintro e w2 ⟨rfl, hw2⟩
  have hb2 : Below w.heap.size w w2 := hw2 ▸ hb1.alloc hb1.size _
  clear hw2 H2 hb1
  go_wp2_with fail
  refine (H3.out _).mono ?_
  rintro e w1 ⟨rfl, rfl⟩
  go_wp2_with fail
  refine (H4.out _).mono ?_
  rintro e w1 ⟨rfl, rfl⟩
  go_wp2_with fail
  refine (H5.out _).mono ?_
  rintro e w1 ⟨rfl, rfl⟩
  go_wp2_with fail
  refine (H6.out _).mono ?_
  rintro e w1 ⟨rfl, rfl⟩
  go_wp2
  go_ret
  exact ⟨rfl, hb2⟩
end Go.Proofs.Ytalliljmkijeiaa
