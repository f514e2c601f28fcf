/- Package gps: clones whose numbers are turned; what the laws over two or three calls of End share. -/
import Derived.Test.YtemoleopabddnaaGpLast
import Derived.Test.YtemoleopabddnaaIn3
namespace Go.Proofs.Ytemoleopabddnaa
open Go.RowKit Go.Maps

/-- A number of a slice of one's own is turned. -/
theorem Fifo.put {B : Nat} {w : World} {A : Option Addr} {xs : List Int} {cap : Nat} (h : Fifo B w A xs cap) {i : Nat} (hi : i < xs.length) (y : Int) :
    ∃ g off, A = some ⟨g, off, none⟩ ∧ B ≤ g ∧ g < w.heap.size ∧ w.cell? ⟨g, off + i, none⟩ = some (.int .i64 (fn xs i)) ∧ w.frozen? ⟨g, off + i, none⟩ = false ∧ Fifo B (w.setCell ⟨g, off + i, none⟩ (.int .i64 y)) A (xs.set i y) cap ∧ Chg (fun k : Nat => k = g) w (w.setCell ⟨g, off + i, none⟩ (.int .i64 y)) := by
  have hle := h.le
  obtain ⟨g, off, N, F, rfl, hg, hr, hN, hF⟩ := h.row (by omega)
  have hc : Chg (fun k : Nat => k = g) w (w.setCell ⟨g, off + i, none⟩ (.int .i64 y)) := (Chg.refl (fun k : Nat => k = g) w).set (p := ⟨g, off + i, none⟩) (Or.inl rfl) _
  refine ⟨g, off, rfl, hg, hr.lt, ?_, hr.frozen _, ⟨by rw [List.length_set]; exact hle, h.max, fun h0 => ⟨g, off, N, _, rfl, hg, hr.set (off + i) (.int .i64 y), hN, fun j x hx => ?_⟩, fun k hk => ⟨(h.ab k hk).1, Nat.lt_of_lt_of_le (h.ab k hk).2 hc.size⟩⟩, hc⟩
  · rw [hr.cell (by omega), hF i _ (at_fn hi)]
  · rw [List.getElem?_set] at hx
    by_cases e : i = j
    · subst e
      rw [if_pos rfl, if_pos hi] at hx
      injection hx with hx
      show (if off + i = off + i then _ else _) = _
      rw [if_pos rfl, hx]
    · rw [if_neg e] at hx
      show (if off + j = off + i then _ else _) = _
      rw [if_neg (by omega)]
      exact hF j x hx
theorem fn_set {xs : List Int} {i : Nat} (hi : i < xs.length) (y : Int) (j : Nat) : fn (xs.set i y) j = if j = i then y else fn xs j := by
  unfold fn
  rw [List.getD_eq_getElem?_getD, List.getElem?_set]
  by_cases c : i = j
  · subst c
    rw [if_pos rfl, if_pos hi, if_pos rfl]
    rfl
  · rw [if_neg c, if_neg (fun e => c e.symm), List.getD_eq_getElem?_getD]
theorem gT_congr {b v b' v' : Nat → Int} {n k : Nat} (hk : k < n) (hb : ∀ j, j < n → b' j = b j) (hv : ∀ j, j < n → v' j = v j) : gT b' v' n k = gT b v n k := su_congr fun j hj => by rw [hb j hj, hb k hk, hv j hj, hv k hk]
theorem gT_small {xs ys : List Int} (hR : Right xs ys) (k : Nat) : 0 ≤ gT (fn xs) (fn ys) xs.length k ∧ gT (fn xs) (fn ys) xs.length k ≤ 16777216000 := by
  rw [← gt_su]
  exact gt_sum hR k hR.few
/-- The first i turned by f. -/
def upd (f : Int → Int) (xs : List Int) (i : Nat) : List Int := (xs.take i).map f ++ xs.drop i
theorem upd_length (f : Int → Int) (xs : List Int) (i : Nat) : (upd f xs i).length = xs.length := by
  unfold upd
  rw [List.length_append, List.length_map, List.length_take, List.length_drop]
  omega
theorem upd_zero (f : Int → Int) (xs : List Int) : upd f xs 0 = xs := by simp [upd]
theorem upd_all (f : Int → Int) (xs : List Int) {i : Nat} (h : i = xs.length) : upd f xs i = xs.map f := by
  subst h
  simp [upd]
theorem upd_at {f : Int → Int} {xs : List Int} {i : Nat} (hi : i < xs.length) : fn (upd f xs i) i = fn xs i := by
  apply fn_at
  unfold upd
  rw [List.getElem?_append_right (by rw [List.length_map, List.length_take]; omega), List.length_map, List.length_take, List.getElem?_drop, show i + (i - min i xs.length) = i by omega]
  exact at_fn hi
theorem upd_set {f : Int → Int} {xs : List Int} {i : Nat} (hi : i < xs.length) : (upd f xs i).set i (f (fn xs i)) = upd f xs (i + 1) := by
  apply List.ext_getElem?
  intro j
  rw [List.getElem?_set, upd_length]
  have hl : (xs.take i).length = i := by rw [List.length_take]; omega
  have hl2 : (xs.take (i + 1)).length = i + 1 := by rw [List.length_take]; omega
  by_cases c : i = j
  · subst c
    rw [if_pos rfl, if_pos hi]
    unfold upd
    rw [List.getElem?_append_left (by rw [List.length_map, hl2]; omega), List.getElem?_map, List.getElem?_take_of_lt (by omega), at_fn hi]
    rfl
  · rw [if_neg c]
    unfold upd
    rcases Nat.lt_or_ge j i with h | h
    · rw [List.getElem?_append_left (by rw [List.length_map, hl]; exact h), List.getElem?_append_left (by rw [List.length_map, hl2]; omega), List.getElem?_map, List.getElem?_map, List.getElem?_take_of_lt h, List.getElem?_take_of_lt (by omega)]
    · rw [List.getElem?_append_right (by rw [List.length_map, hl]; exact h), List.getElem?_append_right (by rw [List.length_map, hl2]; omega), List.length_map, List.length_map, hl, hl2, List.getElem?_drop, List.getElem?_drop, show i + (j - i) = i + 1 + (j - (i + 1)) by omega]
theorem fn_map {f : Int → Int} {xs : List Int} {j : Nat} (hj : j < xs.length) : fn (xs.map f) j = f (fn xs j) := by
  apply fn_at
  rw [List.getElem?_map, at_fn hj]
  rfl
end Go.Proofs.Ytemoleopabddnaa
