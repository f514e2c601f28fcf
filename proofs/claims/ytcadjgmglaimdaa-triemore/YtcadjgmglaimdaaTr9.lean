/- slices.Equal over equal rows; the check 'alive' of package trie's laws returns true. -/
import Derived.Test.YtcadjgmglaimdaaTr8
namespace Go.Proofs.Ytcadjgmglaimdaa
open Go.RowKit Go.Maps

set_option maxHeartbeats 1000000 in
theorem equal_ints {w : World} {g1 g2 n c1 c2 : Nat} (f : Nat → Int) (h1 : ∀ j, j < n → w.cell? ⟨g1, j, none⟩ = some (.int .i64 (f j))) (h2 : ∀ j, j < n → w.cell? ⟨g2, j, none⟩ = some (.int .i64 (f j))) (hn : n * 8 ≤ 281474976710656) :
    Calls Try.prog 20 #[.slice (some ⟨g1, 0, none⟩) n c1, .slice (some ⟨g2, 0, none⟩) n c2] w fun e w' => e = .returned (.bool true) ∧ ∃ k, w' = w.drewN k := by
  have H1 := Lib.hid h1
  have H2 := Lib.hid h2
  clear h1 h2
  go_enter Try.func20, Try.ntmps20
  go_wp2
  go_loopg [13] n (fun k c wr => ∃ i t : Nat, c = .int .i64 (i : Int) ∧ i + k = n ∧ wr = w.drewN t)
  case atStart => exact ⟨0, 0, rfl, by omega, rfl⟩
  case round =>
    obtain ⟨i, t, rfl, hik, rfl⟩ := hrel
    cases gk with
    | zero =>
      obtain rfl : i = n := by omega
      go_wp2
      go_ret
      exact ⟨rfl, t, rfl⟩
    | succ k =>
      have hi : i < n := by omega
      have d1 := H1.out i hi
      have d2 := H2.out i hi
      have i1 : (i : Int) < (n : Int) := by omega
      generalize f i = x at *
      go_wp2
      go_quiet (fail)
      go_wp2
      go_roundg k
      case measure => omega
      case rel => exact ⟨i + 1, t + nq, by go_num, by omega, rfl⟩
set_option maxHeartbeats 1000000 in
theorem equal_bools {w : World} {g1 g2 n c1 c2 : Nat} (f : Nat → Bool) (h1 : ∀ j, j < n → w.cell? ⟨g1, j, none⟩ = some (.bool (f j))) (h2 : ∀ j, j < n → w.cell? ⟨g2, j, none⟩ = some (.bool (f j))) (hn : n * 8 ≤ 281474976710656) :
    Calls Try.prog 21 #[.slice (some ⟨g1, 0, none⟩) n c1, .slice (some ⟨g2, 0, none⟩) n c2] w fun e w' => e = .returned (.bool true) ∧ ∃ k, w' = w.drewN k := by
  have H1 := Lib.hid h1
  have H2 := Lib.hid h2
  clear h1 h2
  go_enter Try.func21, Try.ntmps21
  go_wp2
  go_loopg [13] n (fun k c wr => ∃ i t : Nat, c = .int .i64 (i : Int) ∧ i + k = n ∧ wr = w.drewN t)
  case atStart => exact ⟨0, 0, rfl, by omega, rfl⟩
  case round =>
    obtain ⟨i, t, rfl, hik, rfl⟩ := hrel
    cases gk with
    | zero =>
      obtain rfl : i = n := by omega
      go_wp2
      go_ret
      exact ⟨rfl, t, rfl⟩
    | succ k =>
      have hi : i < n := by omega
      have d1 := H1.out i hi
      have d2 := H2.out i hi
      have i1 : (i : Int) < (n : Int) := by omega
      generalize f i = x at *
      cases x
      all_goals
        go_wp2
        go_quiet (fail)
        go_wp2
        go_roundg k
        case measure => omega
        case rel => exact ⟨i + 1, t + nq, by go_num, by omega, rfl⟩

/-! ### lists laid by a literal -/
def pfCells (ps : List Pf) : List Value := ps.flatMap Pf.cells
def adCells (ds : List Ad) : List Value := ds.flatMap Ad.cells
theorem pf_len (p : Pf) : p.cells.length = 6 := rfl
theorem ad_len (a : Ad) : a.cells.length = 4 := rfl
theorem row_pfs {w : World} {g : Nat} {cur : Array Value} (hg : w.heap[g]? = some (.cells cur 26 (0, 0))) {ps : List Pf} (ht : cur.toList.take (ps.length * 6) = pfCells ps) : ∀ j p, ps[j]? = some p → PfAt w g (0 + j * 6) p := fun j p hp => by
  have hj : j < ps.length := by
    rcases Nat.lt_or_ge j ps.length with h | h
    · exact h
    · rw [List.getElem?_eq_none h] at hp; cases hp
  have key : ∀ i, i < 6 → w.cell? ⟨g, 0 + j * 6 + i, none⟩ = p.cells[i]? := fun i hi => by
    rw [cell_of_row w g _ cur _ _ hg, ← flat_at pf_len hp i hi]
    have : (cur.toList.take (ps.length * 6))[j * 6 + i]? = (ps.flatMap Pf.cells)[j * 6 + i]? := by rw [ht]; rfl
    rw [← this, List.getElem?_take_of_lt (by omega), Array.getElem?_toList, Nat.zero_add]
  exact ⟨key 0 (by omega), key 1 (by omega), key 2 (by omega), key 3 (by omega), key 4 (by omega), key 5 (by omega)⟩
theorem lit_pfs (w : World) (ps : List Pf) (hok : ∀ p ∈ ps, p.ad.Ok) (hl : ps.length * 24 ≤ 281474976710656) : PfsIn (w.alloc (.cells (pfCells ps).toArray 26)) (some ⟨w.heap.size, 0, none⟩) ps :=
  ⟨fun _ => ⟨w.heap.size, 0, rfl, by simp, row_pfs (heap_alloc_new w _) (by
    rw [← flat_length pf_len ps]
    exact List.take_length)⟩, hok, hl⟩
theorem lit_ads (w : World) (ds : List Ad) (hok : ∀ p ∈ ds, p.Ok) (hl : ds.length * 8 ≤ 281474976710656) : AdsIn (w.alloc (.cells (adCells ds).toArray 24)) (some ⟨w.heap.size, 0, none⟩) ds := by
  refine ⟨fun _ => ⟨w.heap.size, 0, rfl, by simp, fun j p hp => ?_⟩, hok, hl⟩
  have key : ∀ i, i < 4 → (w.alloc (.cells (adCells ds).toArray 24)).cell? ⟨w.heap.size, 0 + j * 4 + i, none⟩ = p.cells[i]? := fun i hi => by
    rw [cell_of_row _ w.heap.size _ _ _ _ (heap_alloc_new w _), ← flat_at ad_len hp i hi, Nat.zero_add]
    simp [adCells]
  exact ⟨key 0 (by omega), key 1 (by omega), key 2 (by omega), key 3 (by omega)⟩

theorem Told.at {w : World} {g h : Nat} {ps : List Pf} {ds : List Ad} (t : Told w g h ps ds ds.length) {j : Nat} {a : Ad} (ha : ds[j]? = some a) : w.cell? ⟨g, j, none⟩ = some (.int .i64 (lookTo a.num ps)) ∧ w.cell? ⟨h, j, none⟩ = some (.bool (lookIs a.num ps)) := by
  have hj : j < ds.length := by
    rcases Nat.lt_or_ge j ds.length with h | h
    · exact h
    · rw [List.getElem?_eq_none h] at ha; cases ha
  obtain ⟨F, h1, h2⟩ := t.to_
  obtain ⟨G, h3, h4⟩ := t.is_
  exact ⟨by rw [h1.cell hj, h2 j a hj ha], by rw [h3.cell hj, h4 j a hj ha]⟩

def p1 : Pf := ⟨⟨10, 0, 0, 0⟩, 8, 1⟩
def p2 : Pf := ⟨⟨10, 1, 0, 0⟩, 16, 2⟩
def d3 : List Ad := [⟨10, 1, 2, 3⟩, ⟨10, 2, 0, 0⟩, ⟨11, 0, 0, 0⟩]
theorem ok_ad {a b c d : Int} (h : 0 ≤ a ∧ a < 256 ∧ 0 ≤ b ∧ b < 256 ∧ 0 ≤ c ∧ c < 256 ∧ 0 ≤ d ∧ d < 256) : (Ad.mk a b c d).Ok := ⟨⟨h.1, h.2.1⟩, ⟨h.2.2.1, h.2.2.2.1⟩, ⟨h.2.2.2.2.1, h.2.2.2.2.2.1⟩, ⟨h.2.2.2.2.2.2.1, h.2.2.2.2.2.2.2⟩⟩
theorem good12 : Good [p1, p2] := by
  refine ⟨by decide, fun p hp => ?_, fun p hp => ?_, ?_⟩
  · simp at hp
    rcases hp with rfl | rfl <;> exact ⟨by decide, by decide⟩
  · simp at hp
    rcases hp with rfl | rfl <;> unfold low <;> decide
  · refine List.pairwise_cons.2 ⟨fun q hq => ?_, List.pairwise_singleton _ _⟩
    simp at hq
    subst hq
    exact fun h => absurd h.1 (by decide)
theorem look1 : lookB (Ad.num ⟨10, 1, 2, 3⟩) [p1, p2] = (16, 2) := by
  have a : within (Ad.num ⟨10, 1, 2, 3⟩) p1 := ⟨⟨by decide, by decide⟩, by unfold top; decide⟩
  have b : within (Ad.num ⟨10, 1, 2, 3⟩) p2 := ⟨⟨by decide, by decide⟩, by unfold top; decide⟩
  show pick _ (pick _ (-1, 0) p1) p2 = _
  rw [show pick (Ad.num ⟨10, 1, 2, 3⟩) (-1, 0) p1 = (8, 1) by unfold pick; rw [if_pos ⟨by decide, a⟩]; rfl]
  unfold pick
  rw [if_pos ⟨by decide, b⟩]; rfl
theorem look2 : lookB (Ad.num ⟨10, 2, 0, 0⟩) [p1, p2] = (8, 1) := by
  have a : within (Ad.num ⟨10, 2, 0, 0⟩) p1 := ⟨⟨by decide, by decide⟩, by unfold top; decide⟩
  have b : ¬ within (Ad.num ⟨10, 2, 0, 0⟩) p2 := fun h => absurd h.2 (by unfold top; decide)
  show pick _ (pick _ (-1, 0) p1) p2 = _
  rw [show pick (Ad.num ⟨10, 2, 0, 0⟩) (-1, 0) p1 = (8, 1) by unfold pick; rw [if_pos ⟨by decide, a⟩]; rfl]
  unfold pick
  rw [if_neg (fun h => b h.2)]
theorem look3 : lookB (Ad.num ⟨11, 0, 0, 0⟩) [p1, p2] = (-1, 0) := by
  have a : ¬ within (Ad.num ⟨11, 0, 0, 0⟩) p1 := fun h => absurd h.2 (by unfold top; decide)
  have b : ¬ within (Ad.num ⟨11, 0, 0, 0⟩) p2 := fun h => absurd h.2 (by unfold top; decide)
  show pick _ (pick _ (-1, 0) p1) p2 = _
  rw [show pick (Ad.num ⟨11, 0, 0, 0⟩) (-1, 0) p1 = (-1, 0) by unfold pick; rw [if_neg (fun h => a h.2)]]
  unfold pick
  rw [if_neg (fun h => b h.2)]
def to3 (j : Nat) : Int := if j = 0 then 2 else if j = 1 then 1 else 0
def is3 (j : Nat) : Bool := if j = 0 then true else if j = 1 then true else false
theorem told3 {w : World} {g h : Nat} (t : Told w g h [p1, p2] d3 d3.length) : (∀ j, j < 3 → w.cell? ⟨g, j, none⟩ = some (.int .i64 (to3 j))) ∧ (∀ j, j < 3 → w.cell? ⟨h, j, none⟩ = some (.bool (is3 j))) := by
  have e0 := t.at (j := 0) (a := ⟨10, 1, 2, 3⟩) rfl
  have e1 := t.at (j := 1) (a := ⟨10, 2, 0, 0⟩) rfl
  have e2 := t.at (j := 2) (a := ⟨11, 0, 0, 0⟩) rfl
  unfold lookTo lookIs at e0 e1 e2
  rw [look1] at e0
  rw [look2] at e1
  rw [look3] at e2
  constructor
  · intro j hj
    rcases (show j = 0 ∨ j = 1 ∨ j = 2 by omega) with rfl | rfl | rfl
    · exact e0.1
    · exact e1.1
    · exact e2.1
  · intro j hj
    rcases (show j = 0 ∨ j = 1 ∨ j = 2 by omega) with rfl | rfl | rfl
    · exact e0.2
    · exact e1.2
    · exact e2.2

set_option maxRecDepth 100000 in
set_option maxHeartbeats 4000000 in
theorem alive6_any (w : World) : Calls Try.prog 15 #[] w fun e w' => e = .returned (.bool true) ∧ Below w.heap.size w w' := by
  have hp := lit_pfs w [p1, p2] (fun p hp => by
    simp at hp
    rcases hp with rfl | rfl <;> exact ok_ad (by decide)) (by decide)
  have hA := lit_ads (w.alloc (.cells (pfCells [p1, p2]).toArray 26)) d3 (fun a ha => by
    simp [d3] at ha
    rcases ha with rfl | rfl | rfl <;> exact ok_ad (by decide)) (by decide)
  rw [show (w.alloc (.cells (pfCells [p1, p2]).toArray 26)).heap.size = w.heap.size + 1 by simp] at hA
  have hb0 : Below w.heap.size w (w.alloc (.cells (pfCells [p1, p2]).toArray 26)) := (Below.refl _ _).alloc (Nat.le_refl _) _
  have hb1 : Below w.heap.size w ((w.alloc (.cells (pfCells [p1, p2]).toArray 26)).alloc (.cells (adCells d3).toArray 24)) := hb0.alloc hb0.size _
  have hp2 := hp.below ((Below.refl _ _).alloc (Nat.le_refl _) (.cells (adCells d3).toArray 24))
  have H := find_any hp2 (cap := 2) (by decide) hA (cad := 3) (by decide)
  have HB := Lib.hid hb1
  clear hp hA hb0 hb1 hp2
  have HF : Hid (Calls Try.prog 9 #[.slice (some ⟨w.heap.size, 0, none⟩) 2 2, .slice (some ⟨w.heap.size + 1, 0, none⟩) 3 3] ((w.alloc (.cells #[.int .u8 10, .int .u8 0, .int .u8 0, .int .u8 0, .int .i64 8, .int .i64 1, .int .u8 10, .int .u8 1, .int .u8 0, .int .u8 0, .int .i64 16, .int .i64 2] 26)).alloc (.cells #[.int .u8 10, .int .u8 1, .int .u8 2, .int .u8 3, .int .u8 10, .int .u8 2, .int .u8 0, .int .u8 0, .int .u8 11, .int .u8 0, .int .u8 0, .int .u8 0] 24)) fun e w' => ∃ g h, e = .returned (.tuple #[.slice (some ⟨g, 0, none⟩) 3 3, .slice (some ⟨h, 0, none⟩) 3 3, .int .i64 0]) ∧ Below w.heap.size w w' ∧ (∀ j, j < 3 → w'.cell? ⟨g, j, none⟩ = some (.int .i64 (to3 j))) ∧ (∀ j, j < 3 → w'.cell? ⟨h, j, none⟩ = some (.bool (is3 j)))) := Lib.hid (H.mono (by
    rintro e w' ⟨hb, ⟨h0, _⟩ | ⟨_, g, h, rfl, _, _, ht⟩⟩
    · exact absurd ((wrong_ok _).2 good12) h0
    · exact ⟨g, h, rfl, HB.out.trans (hb.mono HB.out.size), told3 ht⟩))
  clear H HB
  go_enter Try.func15, Try.ntmps15
  go_wp2_with fail
  refine HF.out.mono ?_
  rintro e w1 ⟨g, h, rfl, hb, c1, c2⟩
  have hl : ∀ j, j < 3 → (w1.alloc (.cells #[.int .i64 2, .int .i64 1, .int .i64 0] 3)).cell? ⟨w1.heap.size, j, none⟩ = some (.int .i64 (to3 j)) := fun j hj => by
    rw [cell_of_row _ w1.heap.size _ _ _ _ (heap_alloc_new w1 _)]
    rcases (show j = 0 ∨ j = 1 ∨ j = 2 by omega) with rfl | rfl | rfl <;> rfl
  have hb2 : Below w1.heap.size w1 (w1.alloc (.cells #[.int .i64 2, .int .i64 1, .int .i64 0] 3)) := (Below.refl _ _).alloc (Nat.le_refl _) _
  have hg : ∀ j, j < 3 → (w1.alloc (.cells #[.int .i64 2, .int .i64 1, .int .i64 0] 3)).cell? ⟨g, j, none⟩ = some (.int .i64 (to3 j)) := fun j hj => (hb2.cell (p := ⟨g, j, none⟩) (World.block_lt_of_cell? _ _ (c1 j hj))).trans (c1 j hj)
  have H1 := Lib.hid (equal_ints (c1 := 3) (c2 := 3) to3 hg hl (by decide))
  have HX := Lib.hid (And.intro hb (And.intro hb2 c2))
  clear hl hb2 hg HF c1 c2 hb
  go_wp2_with fail
  refine H1.out.mono ?_
  rintro e w2 ⟨rfl, k, rfl⟩
  obtain ⟨x1, x2, x3⟩ := HX.out
  have hb3 := x1.trans (x2.mono x1.size)
  have hb4 := below_drewN hb3 k
  have hb4' := below_drewN x2 k
  generalize (w1.alloc (.cells #[.int .i64 2, .int .i64 1, .int .i64 0] 3)).drewN k = w2 at *
  have hl : ∀ j, j < 3 → (w2.alloc (.cells #[.bool true, .bool true, .bool false] 4)).cell? ⟨w2.heap.size, j, none⟩ = some (.bool (is3 j)) := fun j hj => by
    rw [cell_of_row _ w2.heap.size _ _ _ _ (heap_alloc_new w2 _)]
    rcases (show j = 0 ∨ j = 1 ∨ j = 2 by omega) with rfl | rfl | rfl <;> rfl
  have hb5 : Below w2.heap.size w2 (w2.alloc (.cells #[.bool true, .bool true, .bool false] 4)) := (Below.refl _ _).alloc (Nat.le_refl _) _
  have hb6 := hb4'.trans (hb5.mono hb4'.size)
  have hg : ∀ j, j < 3 → (w2.alloc (.cells #[.bool true, .bool true, .bool false] 4)).cell? ⟨h, j, none⟩ = some (.bool (is3 j)) := fun j hj => (hb6.cell (p := ⟨h, j, none⟩) (World.block_lt_of_cell? _ _ (x3 j hj))).trans (x3 j hj)
  have H2 := Lib.hid (equal_bools (c1 := 3) (c2 := 3) is3 hg hl (by decide))
  have HY := Lib.hid (hb4.trans (hb5.mono hb4.size))
  clear hl hb5 hb6 hg hb3 hb4 hb4' x1 x2 x3 HX H1
  go_wp2_with fail
  refine H2.out.mono ?_
  rintro e w3 ⟨rfl, k2, rfl⟩
  go_wp2_with fail
  go_ret
  exact ⟨rfl, below_drewN HY.out k2⟩
end Go.Proofs.Ytcadjgmglaimdaa
