/- An append to bytes that fill their row: the row itself is left as it was. -/
import Derived.Test.YtmigfemkbdehbaaHd6
namespace Go.Proofs.Ytmigfemkbdehbaa
open Go.RowKit Go.Maps

theorem next_large {n m : Nat} (h : n < m) : Builtin.nextslicecap (n + m) n = n + m := by
  unfold Builtin.nextslicecap
  simp
  omega
theorem lies_own {w : World} {H : Nat} {v : Value} {bs : List Int} (h : OwnB H w v bs) (hb : Bytes bs) (hl : bs.length ≤ 281474976710656) (h0 : 0 < bs.length) : ∃ A cap, v = .slice A bs.length cap ∧ Lies w A bs ∧ bs.length ≤ cap := by
  rcases h.2 with ⟨_, hn⟩ | ⟨g, cap, cur, rfl, hB, hg, hn, _⟩
  · omega
  · obtain ⟨A, c, e, hL⟩ := h.form hb hl
    injection e with e1 _ e3
    subst e1 e3
    exact ⟨_, _, rfl, hL, hn⟩
theorem append_fresh {w : World} {a : Addr} {n : Nat} {bs : List Int} (h : Lies w (some a) bs) (hn : bs.length = n) (h0 : 0 < n) (h1 : n < 65536) {A : Option Addr} {cap : Nat} {xs : List Int} (hs : CameB w A cap xs) :
    ∃ A' cap' W, (∀ ty, (Builtin.append_ #[25, 25] ty #[.slice (some a) n n, .slice A xs.length cap]).run Try.prog w = .ok (.slice A' (n + xs.length) cap') W) ∧ Lies W A' (bs ++ xs) ∧ n + xs.length ≤ cap' ∧ Below w.heap.size w W := by
  obtain ⟨i0, hi, hz0, hz1, hz2⟩ := info_parts info_u8
  have hsz := hs.size
  by_cases hx : xs.length = 0
  · obtain rfl : xs = [] := List.eq_nil_of_length_eq_zero hx
    refine ⟨some a, n, w, fun ty => ?_, by rw [List.append_nil]; exact h, by simp, Below.refl _ _⟩
    cases A <;> simp [Builtin.append_, run_underlying under_u8s, sizeOf, typeInfo, hi, Builtin.lenOf, Builtin.firstCells, storeCells, loadCells, loadCellsFrom]
  · cases A with
    | none => exact absurd (hs.nil rfl).1 (fun e => hx (by rw [e]; rfl))
    | some b =>
      have hfit : Builtin.nextslicecap (n + xs.length) n * i0.bytes ≤ 281474976710656 := by
        rw [hz2]
        rcases Nat.lt_or_ge n xs.length with hl | hl
        · rw [next_large hl]; omega
        · exact growslice_fits (by omega) (by omega)
      have hr := fun ty => run_append_grow (P := Try.prog) w 25 ty 5 i0 _ under_u8s hi hz0 a n n (u8s bs) (by rw [hz1, u8s_length, hn, Nat.mul_one]) (lies_news h) b xs.length cap (u8s xs) (by rw [hz1, u8s_length, Nat.mul_one]) (lies_news hs.lies) (by omega) (by omega) hfit
      have hge := grownCap_ge w (n + xs.length) n 5
      refine ⟨_, _, _, hr, ?_, hge, ((Below.refl _ w).drew).alloc (Nat.le_refl _) _⟩
      refine ⟨fun _ => ⟨w.heap.size, 0, rfl, by simp, fun j x hjx => ?_⟩, h.bytes.append hs.lies.bytes, by rw [List.length_append, hn]; omega⟩
      have hj : j < (u8s bs ++ u8s xs).length := by
        rw [← u8s_append, u8s_length]
        rcases Nat.lt_or_ge j (bs ++ xs).length with h | h
        · exact h
        · rw [List.getElem?_eq_none h] at hjx; cases hjx
      rw [cell_of_row _ w.heap.size _ _ _ _ (heap_alloc_new w.drew _), Nat.zero_add, ← u8s_at hjx, u8s_append]
      rw [Array.getElem?_append_left (by simpa using hj)]
      simp
end Go.Proofs.Ytmigfemkbdehbaa
