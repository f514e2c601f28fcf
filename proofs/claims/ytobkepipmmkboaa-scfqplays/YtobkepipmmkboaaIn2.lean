/- Slices of ints that are one's own, wherever they begin: notions; append. -/
import Derived.Test.YtobkepipmmkboaaIn1
namespace Go.Proofs.Ytobkepipmmkboaa
open Go.RowKit Go.Maps

/-- Only blocks of S, and what is new, have turned. -/
structure Chg (S : Nat → Prop) (w w' : World) : Prop where
  os : w'.os = w.os
  tape : w'.tape = w.tape
  output : w'.output = w.output
  size : w.heap.size ≤ w'.heap.size
  block : ∀ k, k < w.heap.size → ¬ S k → w'.heap[k]? = w.heap[k]?
namespace Chg
variable {S T : Nat → Prop} {a b c : World}
theorem refl (S : Nat → Prop) (w : World) : Chg S w w := ⟨rfl, rfl, rfl, Nat.le_refl _, fun _ _ _ => rfl⟩
theorem trans (h : Chg S a b) (k : Chg S b c) : Chg S a c := ⟨k.os.trans h.os, k.tape.trans h.tape, k.output.trans h.output, Nat.le_trans h.size k.size, fun i hi hn => (k.block i (Nat.lt_of_lt_of_le hi h.size) hn).trans (h.block i hi hn)⟩
theorem mono (h : Chg S a b) (hs : ∀ k, k < a.heap.size → S k → T k) : Chg T a b := ⟨h.os, h.tape, h.output, h.size, fun i hi hn => h.block i hi (fun hS => hn (hs i hi hS))⟩
theorem of_below (h : Below a.heap.size a b) (S : Nat → Prop) : Chg S a b := ⟨h.os, h.tape, h.output, h.size, fun i hi _ => h.block i hi⟩
theorem of_grown {r : Option Nat} (h : a.grownBy b r) (hs : ∀ k, r = some k → S k) : Chg S a b := ⟨h.os, h.tape, h.output, h.size, fun i hi hn => h.block i hi (fun e => hn (hs i e.symm))⟩
theorem drewN (h : Chg S a b) (n : Nat) : Chg S a (b.drewN n) := ⟨h.os, h.tape, h.output, h.size, h.block⟩
theorem drew (h : Chg S a b) : Chg S a b.drew := ⟨h.os, h.tape, h.output, h.size, h.block⟩
theorem alloc (h : Chg S a b) (o : Obj) : Chg S a (b.alloc o) :=
  ⟨h.os, h.tape, h.output, Nat.le_trans h.size (by simp), fun i hi hn => (Below.heap_alloc b o i (Nat.lt_of_lt_of_le hi h.size)).trans (h.block i hi hn)⟩
theorem set (h : Chg S a b) {p : Addr} (hp : S p.block ∨ a.heap.size ≤ p.block) (u : Value) : Chg S a (b.setCell p u) :=
  ⟨h.os, h.tape, h.output, by simpa [World.setCell] using h.size, fun i hi hn => (Below.heap_setCell b p u i (by rcases hp with hp | hp <;> (intro e; subst e; first | exact hn hp | omega))).trans (h.block i hi hn)⟩
theorem below (h : Chg S a b) {B : Nat} (hB : B ≤ a.heap.size) (hs : ∀ k, S k → B ≤ k) : Below B a b :=
  ⟨h.os, h.tape, h.output, h.size, fun k hk => h.block k (by omega) (fun hS => by have := hs k hS; omega)⟩
end Chg

theorem below_alloc {B : Nat} {w w' : World} (h : Below B w w') (o : Obj) (hB : B ≤ w'.heap.size) : Below B w (w'.alloc o) := h.alloc hB o

def Ab (A : Option Addr) (k : Nat) : Prop := ∃ a, A = some a ∧ a.block = k
def i64s (xs : List Int) : List Value := xs.map (.int .i64)
theorem i64s_length (xs : List Int) : (i64s xs).length = xs.length := by simp [i64s]
theorem i64s_append (xs ys : List Int) : i64s (xs ++ ys) = i64s xs ++ i64s ys := by simp [i64s]
theorem i64s_at {xs : List Int} {j : Nat} {x : Int} (h : xs[j]? = some x) : (i64s xs)[j]? = some (.int .i64 x) := by simp [i64s, h]
theorem i64s_back {xs : List Int} {j : Nat} {u : Value} (h : (i64s xs)[j]? = some u) : ∃ x, xs[j]? = some x ∧ u = .int .i64 x := by
  simp only [i64s, List.getElem?_map, Option.map_eq_some_iff] at h
  obtain ⟨x, h1, h2⟩ := h
  exact ⟨x, h1, h2.symm⟩
theorem i64s_one {xs : List Int} : ∀ u ∈ i64s xs, u.oneCell' = true := by
  intro u hu
  obtain ⟨x, _, rfl⟩ := List.mem_map.1 hu
  rfl
theorem lt_of_some {α : Type} {xs : List α} {j : Nat} {x : α} (h : xs[j]? = some x) : j < xs.length := (List.getElem?_eq_some_iff.1 h).1

/-- A slice of the call's own (its block is B or later), from wherever in its row on, with what is behind it. -/
structure Fifo (B : Nat) (w : World) (A : Option Addr) (xs : List Int) (cap : Nat) : Prop where
  le : xs.length ≤ cap
  max : cap ≤ maxLen
  row : 0 < cap → ∃ g off N F, A = some ⟨g, off, none⟩ ∧ B ≤ g ∧ w.rowIs g 3 N F ∧ off + cap ≤ N ∧ ∀ j x, xs[j]? = some x → F (off + j) = .int .i64 x
  ab : ∀ g, Ab A g → B ≤ g ∧ g < w.heap.size
namespace Fifo
variable {B : Nat} {w w' : World} {A : Option Addr} {xs : List Int} {cap : Nat}
theorem nil (B : Nat) (w : World) : Fifo B w none [] 0 := ⟨Nat.le_refl _, Nat.zero_le _, fun h => by omega, fun _ h => by obtain ⟨_, h, _⟩ := h; cases h⟩
theorem of_blocks (h : Fifo B w A xs cap) (hs : w.heap.size ≤ w'.heap.size) (hb : ∀ g, Ab A g → g < w.heap.size → w'.heap[g]? = w.heap[g]?) : Fifo B w' A xs cap := by
  refine ⟨h.le, h.max, fun h0 => ?_, fun g hg => ⟨(h.ab g hg).1, Nat.lt_of_lt_of_le (h.ab g hg).2 hs⟩⟩
  obtain ⟨g, off, N, F, rfl, hg, hr, hN, hF⟩ := h.row h0
  exact ⟨g, off, N, F, rfl, hg, hr.of_block (hb g ⟨_, rfl, rfl⟩ hr.lt), hN, hF⟩
theorem below (h : Fifo B w A xs cap) (hb : Below w.heap.size w w') : Fifo B w' A xs cap := h.of_blocks hb.size fun g _ hg => hb.block g hg
theorem chg {S : Nat → Prop} (h : Fifo B w A xs cap) (hb : Chg S w w') (hS : ∀ g, Ab A g → ¬ S g) : Fifo B w' A xs cap := h.of_blocks hb.size fun g ha hg => hb.block g hg (hS g ha)
theorem mono {B' : Nat} (h : Fifo B w A xs cap) (hB : B' ≤ B) : Fifo B' w A xs cap := by
  refine ⟨h.le, h.max, fun h0 => ?_, fun g hg => ⟨Nat.le_trans hB (h.ab g hg).1, (h.ab g hg).2⟩⟩
  obtain ⟨g, off, N, F, e, hg, rest⟩ := h.row h0
  exact ⟨g, off, N, F, e, Nat.le_trans hB hg, rest⟩
theorem ints (h : Fifo B w A xs cap) (hl : xs.length * 8 ≤ 281474976710656) : IntsIn w A xs := by
  refine ⟨fun h0 => ?_, hl⟩
  have hle := h.le
  obtain ⟨g, off, N, F, rfl, hg, hr, hN, hF⟩ := h.row (by omega)
  refine ⟨g, off, rfl, hr.lt, fun j x hx => ?_⟩
  have := lt_of_some hx
  rw [hr.cell (by omega), hF j x hx]
theorem of_owns {v : Value} (h : w.ownsRow B 3 1 v xs.length (i64s xs)) : ∃ A cap, v = .slice A xs.length cap ∧ Fifo B w A xs cap ∧ (∀ g, Ab A g → v.ownBlock = some g) := by
  rcases h.2 with ⟨rfl, h0⟩ | ⟨g, cap, cur, rfl, hB, hg, hn, hm, hs, ht⟩
  · obtain rfl := List.eq_nil_of_length_eq_zero h0
    exact ⟨none, 0, rfl, Fifo.nil _ _, fun _ h => by obtain ⟨_, h, _⟩ := h; cases h⟩
  · rw [Nat.mul_one] at hs ht
    refine ⟨_, cap, rfl, ⟨hn, hm, fun _ => ⟨g, 0, cap, fun i => cur.getD i undef, rfl, hB, ⟨cur, hg, hs, fun i hi => ?_⟩, by omega, fun j x hx => ?_⟩, ?_⟩, ?_⟩
    · show cur[i]? = some (cur.getD i undef)
      rw [Array.getD_eq_getD_getElem?, Array.getElem?_eq_getElem (by omega)]; rfl
    · have hj := lt_of_some hx
      have hu := i64s_at hx
      rw [← ht, List.getElem?_take_of_lt hj, Array.getElem?_toList] at hu
      rw [Nat.zero_add]
      show cur.getD j undef = _
      rw [Array.getD_eq_getD_getElem?, hu]; rfl
    · rintro k ⟨a, e, rfl⟩
      injection e with e
      subst e
      exact ⟨hB, (Array.getElem?_eq_some_iff.1 hg).1⟩
    · rintro k ⟨a, e, rfl⟩
      injection e with e
      subst e
      rfl
/-- Without its first element. -/
theorem tail {x : Int} (h : Fifo B w A (x :: xs) cap) : ∃ g off, A = some ⟨g, off, none⟩ ∧ w.cell? ⟨g, off, none⟩ = some (.int .i64 x) ∧ Fifo B w (some ⟨g, off + 1, none⟩) xs (cap - 1) ∧ (cap = 1 → Fifo B w A xs 0) ∧ 0 < cap := by
  have hle := h.le
  rw [List.length_cons] at hle
  obtain ⟨g, off, N, F, rfl, hg, hr, hN, hF⟩ := h.row (by omega)
  have hm := h.max
  refine ⟨g, off, rfl, ?_, ⟨by omega, by omega, fun _ => ⟨g, off + 1, N, F, rfl, hg, hr, by omega, fun j y hy => ?_⟩, ?_⟩, fun e => ⟨by omega, by omega, fun h0 => by omega, h.ab⟩, by omega⟩
  · rw [hr.cell (by omega)]
    have := hF 0 x rfl
    rw [Nat.add_zero] at this
    rw [this]
  · have := hF (j + 1) y (by simpa using hy)
    rwa [show off + (j + 1) = off + 1 + j by omega] at this
  · rintro k ⟨a, e, rfl⟩
    injection e with e
    subst e
    exact ⟨hg, hr.lt⟩
end Fifo

theorem info_i64 : (Try.prog.info? 3).map (fun i => (i.zero, i.size, i.bytes)) = some (some (.int .i64 0), 1, 8) := by kernel_rfl
theorem under_ints : Try.prog.underlying 22 = some (.slice 3) := by kernel_rfl
theorem setCells_row {g N : Nat} : ∀ (ys : List Value) (o : Nat) {w : World} {F : Nat → Value}, w.rowIs g 3 N F →
    ∃ F', (w.setCells g o ys).rowIs g 3 N F' ∧ (∀ i, i < o ∨ o + ys.length ≤ i → F' i = F i) ∧ (∀ j u, ys[j]? = some u → F' (o + j) = u) ∧ Chg (· = g) w (w.setCells g o ys)
  | [], _, w, F, h => ⟨F, h, fun _ _ => rfl, fun _ _ h => by simp at h, Chg.refl _ _⟩
  | y :: r, o, w, F, h => by
    obtain ⟨F', h1, h2, h3, h4⟩ := setCells_row r (o + 1) (h.set o y)
    refine ⟨F', h1, fun i hi => ?_, fun j u hu => ?_, ((Chg.refl (· = g) w).set (p := ⟨g, o, none⟩) (Or.inl rfl) y).trans h4⟩
    · rw [List.length_cons] at hi
      rw [h2 i (by omega), if_neg (by omega)]
    · cases j with
      | zero =>
        simp only [List.getElem?_cons_zero, Option.some.injEq] at hu
        subst hu
        rw [Nat.add_zero, h2 o (by omega), if_pos rfl]
      | succ j =>
        rw [show o + (j + 1) = o + 1 + j by omega]
        exact h3 j u (by simpa using hu)

/-- An append of numbers that lie somewhere. -/
theorem fifo_append {B : Nat} {w : World} {A As : Option Addr} {xs ys : List Int} {cap : Nat} (h : Fifo B w A xs cap) (hy : IntsIn w As ys) (capy : Nat) (hB : B ≤ w.heap.size) (hn : (xs.length + ys.length) * 8 ≤ 140737488355328) (h0 : 0 < ys.length) :
    ∃ A' cap' W, (∀ ty, (Builtin.append_ #[22, 22] ty #[.slice A xs.length cap, .slice As ys.length capy]).run Try.prog w = .ok (.slice A' (xs.length + ys.length) cap') W) ∧
      Fifo B W A' (xs ++ ys) cap' ∧ Chg (Ab A) w W ∧ ∀ g, Ab A' g → Ab A g ∨ w.heap.size ≤ g := by
  obtain ⟨i, hi, hz0, hz1, hz2⟩ := info_parts info_i64
  obtain ⟨gb, gof, rfl, hgl, hgc⟩ := hy.at_ h0
  have hl : (i64s ys).length = ys.length * 1 := by rw [i64s_length, Nat.mul_one]
  have hnews : ∀ j u, (i64s ys)[j]? = some u → w.cell? ((⟨gb, gof, none⟩ : Addr).add j) = some u := fun j u hu => by
    obtain ⟨x, hx, rfl⟩ := i64s_back hu
    have hadd : (⟨gb, gof, none⟩ : Addr).add j = ⟨gb, gof + j, none⟩ := by unfold Addr.add; split <;> simp_all
    rw [hadd]
    exact hgc j x hx
  have hlen : (xs ++ ys).length = xs.length + ys.length := List.length_append
  have grown : ∀ (b : Addr), (∀ j u, (i64s xs)[j]? = some u → w.cell? (b.add j) = some u) → cap < xs.length + ys.length → A = some b →
      ∃ A' cap' W, (∀ ty, (Builtin.append_ #[22, 22] ty #[.slice A xs.length cap, .slice (some ⟨gb, gof, none⟩) ys.length capy]).run Try.prog w = .ok (.slice A' (xs.length + ys.length) cap') W) ∧
      Fifo B W A' (xs ++ ys) cap' ∧ Chg (Ab A) w W ∧ ∀ g, Ab A' g → Ab A g ∨ w.heap.size ≤ g := by
    intro b hb hg e
    subst e
    have key := fun ty => run_append_arg_grows (P := Try.prog) w 22 ty 3 i _ 1 8 under_ints hi hz0 hz1 hz2 rfl (by decide) b xs.length cap (i64s xs) (by rw [i64s_length, Nat.mul_one]) hb
      ⟨gb, gof, none⟩ ys.length capy (i64s ys) hl hnews hg (by simp only [maxLen]; omega) (by omega)
    obtain ⟨v', W, hr, ho, hgr⟩ := key 0
    rw [← i64s_append, ← hlen] at ho
    obtain ⟨A', cap', rfl, hf, hab⟩ := Fifo.of_owns ho
    rw [hlen] at hr
    refine ⟨A', cap', W, fun ty => ?_, hf.mono hB, Chg.of_grown hgr (fun k e => by cases e), fun g hg => .inr ?_⟩
    · exact hr
    · exact (hf.ab g hg).1
  by_cases hroom : xs.length + ys.length ≤ cap
  · obtain ⟨g, off, N, F, rfl, hg, hr, hN, hF⟩ := h.row (by omega)
    obtain ⟨F', k1, k2, k3, k4⟩ := setCells_row (w := w) (F := F) (i64s ys) (off + xs.length) hr
    rw [i64s_length] at k2
    have hrun := fun ty => run_append_room_cells (P := Try.prog) w 22 ty 3 i under_ints hi g off xs.length cap ⟨gb, gof, none⟩ ys.length capy (i64s ys) (by rw [hz1]; exact hl) hnews i64s_one hroom
      (fun j hj => by rw [hz1, Nat.mul_one, hr.cell (by rw [i64s_length] at hj; omega)]; rfl) (fun j _ => hr.frozen _)
    rw [hz1, Nat.mul_one] at hrun
    refine ⟨_, _, _, hrun, ⟨by rw [hlen]; exact hroom, h.max, fun _ => ⟨g, off, N, F', rfl, hg, k1, hN, fun j x hx => ?_⟩, fun g hg => ⟨(h.ab g hg).1, Nat.lt_of_lt_of_le (h.ab g hg).2 k4.size⟩⟩, k4.mono (fun k _ e => ⟨_, rfl, e.symm⟩), fun k hk => .inl hk⟩
    rcases Nat.lt_or_ge j xs.length with hj | hj
    · rw [List.getElem?_append_left hj] at hx
      rw [k2 _ (by omega), hF j x hx]
    · rw [List.getElem?_append_right hj] at hx
      have := k3 _ _ (i64s_at hx)
      rwa [show off + xs.length + (j - xs.length) = off + j by omega] at this
  · by_cases hc : 0 < cap
    · obtain ⟨g, off, N, F, e, hg, hr, hN, hF⟩ := h.row hc
      refine grown ⟨g, off, none⟩ (fun j u hu => ?_) (by omega) e
      obtain ⟨x, hx, rfl⟩ := i64s_back hu
      have hadd : (⟨g, off, none⟩ : Addr).add j = ⟨g, off + j, none⟩ := by unfold Addr.add; split <;> simp_all
      have hle := h.le
      have hj := lt_of_some hx
      rw [hadd, hr.cell (by omega), hF j x hx]
    · have hle := h.le
      obtain rfl : xs = [] := List.eq_nil_of_length_eq_zero (by omega)
      obtain rfl : cap = 0 := by omega
      cases A with
      | some b => exact grown b (fun j u hu => by simp [i64s] at hu) (by simpa using h0) rfl
      | none =>
        have key := fun ty => run_append_own_at (P := Try.prog) w w.heap.size 22 ty 3 i _ 1 8 under_ints hi hz0 hz1 hz2 rfl (by decide) (.slice none 0 0) 0 [] (World.ownsRow_nil _ _ _ _)
          ⟨gb, gof, none⟩ ys.length capy (i64s ys) hl hnews i64s_one (by simp only [maxLen]; simp at hn; omega) (by simp at hn; omega) (Nat.le_refl _)
        obtain ⟨v', W, hr, ho, hgr, _, _⟩ := key 0
        rw [Nat.zero_add, List.nil_append] at ho
        obtain ⟨A', cap', rfl, hf, hab⟩ := Fifo.of_owns ho
        refine ⟨A', cap', W, fun ty => ?_, hf.mono hB, Chg.of_grown hgr (fun k e => by cases e), fun g hg => .inr (hf.ab g hg).1⟩
        simp only [List.length_nil, Nat.zero_add]
        exact hr

theorem elem_ints : Try.prog.underlying 22 = some (.slice (Try.prog.elem 22)) := by kernel_rfl
theorem size_ints (w : World) : (sizeOf (Try.prog.elem 22)).run Try.prog w = .ok 1 w := by kernel_rfl
/-- 's[1:]' of a slice of one's own. -/
theorem Fifo.tail_run {B : Nat} {w : World} {A : Option Addr} {x : Int} {xs : List Int} {cap : Nat} (h : Fifo B w A (x :: xs) cap) :
    ∃ g off A' cap', A = some ⟨g, off, none⟩ ∧ w.cell? ⟨g, off, none⟩ = some (.int .i64 x) ∧
      (∀ W : World, (Instr.slice 22 (.slice (some ⟨g, off, none⟩) (xs.length + 1) cap) (some (.int .i64 1)) none none).run Try.prog W = .ok (.slice A' xs.length cap') W) ∧
      Fifo B w A' xs cap' ∧ ∀ k, Ab A' k → Ab A k := by
  obtain ⟨g, off, rfl, hc, h1, h2, h0⟩ := h.tail
  have hadd : (⟨g, off, none⟩ : Addr).add 1 = ⟨g, off + 1, none⟩ := by unfold Addr.add; split <;> simp_all
  have hr := fun W : World => run_slice_l (P := Try.prog) W 22 (some ⟨g, off, none⟩) (xs.length + 1) cap elem_ints .i64 1 (by omega) (by omega)
  by_cases c : cap = 1
  · refine ⟨g, off, some ⟨g, off, none⟩, 0, rfl, hc, fun W => ?_, h2 c, fun _ hk => hk⟩
    rw [hr W, size_ints]
    simp [Result.andThen, sliced, c]
  · refine ⟨g, off, some ⟨g, off + 1, none⟩, cap - 1, rfl, hc, fun W => ?_, h1, ?_⟩
    · rw [hr W, size_ints]
      simp [Result.andThen, sliced, c, hadd]
    · rintro k ⟨a, e, rfl⟩
      injection e with e
      subst e
      exact ⟨_, rfl, rfl⟩
end Go.Proofs.Ytobkepipmmkboaa
