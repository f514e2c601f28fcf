/- Structs of three ints in memory, whatever their type (T: the struct, TS: its slice): notions; append; 's[:k]', 's[k:]'. -/
import Derived.Test.YtobkepipmmkboaaIn3b
namespace Go.Proofs.Ytobkepipmmkboaa
open Go.RowKit Go.Maps

/-- Structs of three numbers lie in memory, one behind the other. -/
structure ThreeIn (w : World) (A : Option Addr) (gs : List (Int × Int × Int)) : Prop where
  at_ : 0 < gs.length → ∃ b off, A = some ⟨b, off, none⟩ ∧ b < w.heap.size ∧ ∀ j p, gs[j]? = some p → w.cell? ⟨b, off + j * 3, none⟩ = some (.int .i64 p.1) ∧ w.cell? ⟨b, off + j * 3 + 1, none⟩ = some (.int .i64 p.2.1) ∧ w.cell? ⟨b, off + j * 3 + 2, none⟩ = some (.int .i64 p.2.2)
theorem ThreeIn.below {w w' : World} {A : Option Addr} {gs : List (Int × Int × Int)} (h : ThreeIn w A gs) (hb : Below w.heap.size w w') : ThreeIn w' A gs := by
  refine ⟨fun h0 => ?_⟩
  obtain ⟨b, off, e, hl, hc⟩ := h.at_ h0
  exact ⟨b, off, e, Nat.lt_of_lt_of_le hl hb.size, fun j p hp => ⟨(hb.cell (p := ⟨b, _, none⟩) hl).trans (hc j p hp).1, (hb.cell (p := ⟨b, _, none⟩) hl).trans (hc j p hp).2.1, (hb.cell (p := ⟨b, _, none⟩) hl).trans (hc j p hp).2.2⟩⟩
theorem ThreeIn.next {w : World} {A : Option Addr} {gs : List (Int × Int × Int)} (h : ThreeIn w A gs) {i : Nat} (hi : i < gs.length) : ∃ b off x y z, A = some ⟨b, off, none⟩ ∧ gs[i]? = some (x, y, z) ∧ (w.cell? ⟨b, off + i * 3, none⟩ = some (.int .i64 x) ∧ w.cell? ⟨b, off + i * 3 + 1, none⟩ = some (.int .i64 y) ∧ w.cell? ⟨b, off + i * 3 + 2, none⟩ = some (.int .i64 z)) ∧ b < w.heap.size := by
  obtain ⟨b, off, e, hl, hc⟩ := h.at_ (by omega)
  exact ⟨b, off, gs[i].1, gs[i].2.1, gs[i].2.2, e, List.getElem?_eq_getElem hi, hc i _ (List.getElem?_eq_getElem hi), hl⟩
theorem ThreeIn.nil (w : World) (A : Option Addr) : ThreeIn w A [] := ⟨fun h => absurd h (by decide)⟩
def ths (gs : List (Int × Int × Int)) : List Value := gs.flatMap fun p => [.int .i64 p.1, .int .i64 p.2.1, .int .i64 p.2.2]
theorem ths_length (gs : List (Int × Int × Int)) : (ths gs).length = gs.length * 3 := by
  induction gs with
  | nil => rfl
  | cons p gs ih =>
    unfold ths at *
    rw [List.flatMap_cons, List.length_append, ih, List.length_cons, List.length_cons, List.length_cons, List.length_cons, List.length_nil]
    omega
theorem ths_append (a b : List (Int × Int × Int)) : ths (a ++ b) = ths a ++ ths b := List.flatMap_append
theorem ths_at {gs : List (Int × Int × Int)} {j : Nat} {p : Int × Int × Int} (h : gs[j]? = some p) : (ths gs)[j * 3]? = some (.int .i64 p.1) ∧ (ths gs)[j * 3 + 1]? = some (.int .i64 p.2.1) ∧ (ths gs)[j * 3 + 2]? = some (.int .i64 p.2.2) := by
  induction gs generalizing j with
  | nil => cases h
  | cons q gs ih =>
    cases j with
    | zero =>
      rw [List.getElem?_cons_zero] at h
      injection h with h
      subst h
      exact ⟨rfl, rfl, rfl⟩
    | succ j =>
      rw [List.getElem?_cons_succ] at h
      have := ih h
      rw [show (j + 1) * 3 = j * 3 + 3 by omega, show j * 3 + 3 + 1 = j * 3 + 1 + 3 by omega, show j * 3 + 3 + 2 = j * 3 + 2 + 3 by omega]
      exact this
theorem ths_back {gs : List (Int × Int × Int)} {j : Nat} {u : Value} (h : (ths gs)[j]? = some u) : ∃ k p, gs[k]? = some p ∧ ((j = k * 3 ∧ u = .int .i64 p.1) ∨ (j = k * 3 + 1 ∧ u = .int .i64 p.2.1) ∨ (j = k * 3 + 2 ∧ u = .int .i64 p.2.2)) := by
  have hl := lt_of_some h
  rw [ths_length] at hl
  have hk : j / 3 < gs.length := by omega
  obtain ⟨h1, h2, h3⟩ := ths_at (List.getElem?_eq_getElem hk)
  refine ⟨j / 3, gs[j / 3], List.getElem?_eq_getElem hk, ?_⟩
  rcases (by omega : j = j / 3 * 3 ∨ j = j / 3 * 3 + 1 ∨ j = j / 3 * 3 + 2) with e | e | e
  · rw [← e, h] at h1
    injection h1 with h1
    exact .inl ⟨e, h1⟩
  · rw [← e, h] at h2
    injection h2 with h2
    exact .inr (.inl ⟨e, h2⟩)
  · rw [← e, h] at h3
    injection h3 with h3
    exact .inr (.inr ⟨e, h3⟩)
theorem ths_one (gs : List (Int × Int × Int)) : ∀ u ∈ ths gs, u.oneCell' = true := by
  intro u hu
  unfold ths at hu
  obtain ⟨p, _, hu⟩ := List.mem_flatMap.1 hu
  simp only [List.mem_cons, List.not_mem_nil, or_false] at hu
  rcases hu with rfl | rfl | rfl <;> rfl
theorem ths_laid (w : World) (T : TypeId) (gs : List (Int × Int × Int)) : ThreeIn (w.alloc (.cells (ths gs).toArray T)) (some ⟨w.heap.size, 0, none⟩) gs :=
  ⟨fun _ => ⟨w.heap.size, 0, rfl, by simp, fun j p hp => by
    obtain ⟨h1, h2, h3⟩ := ths_at hp
    rw [Nat.zero_add, cell_of_row _ _ (j * 3) _ _ _ (heap_alloc_new w _), cell_of_row _ _ (j * 3 + 1) _ _ _ (heap_alloc_new w _), cell_of_row _ _ (j * 3 + 2) _ _ _ (heap_alloc_new w _), ← h1, ← h2, ← h3]
    simp⟩⟩

/-- What must be known of the types. -/
structure T3 (T TS : TypeId) : Prop where
  under : Try.prog.underlying TS = some (.slice T)
  elem : Try.prog.underlying TS = some (.slice (Try.prog.elem TS))
  size : ∀ w : World, (sizeOf (Try.prog.elem TS)).run Try.prog w = .ok 3 w
  info : ∃ i, Try.prog.info? T = some i ∧ i.zero = some (.agg #[.int .i64 0, .int .i64 0, .int .i64 0]) ∧ i.size = 3 ∧ i.bytes = 24
/-- Structs of one's own. -/
def OwnT (T : TypeId) (B : Nat) (w : World) (v : Value) (gs : List (Int × Int × Int)) : Prop := w.ownsRow B T 3 v gs.length (ths gs)
theorem OwnT.nil (T : TypeId) (B : Nat) (w : World) : OwnT T B w (.slice none 0 0) [] := ⟨rfl, .inl ⟨rfl, rfl⟩⟩
theorem OwnT.block {T : TypeId} {B : Nat} {w w' : World} {v : Value} {gs : List (Int × Int × Int)} (h : OwnT T B w v gs) (hb : ∀ k, B ≤ k → k < w.heap.size → w'.heap[k]? = w.heap[k]?) : OwnT T B w' v gs := by
  refine ⟨h.1, ?_⟩
  rcases h.2 with hn | ⟨g, cap, cur, rfl, hB, hgg, rest⟩
  · exact .inl hn
  · exact .inr ⟨g, cap, cur, rfl, hB, (hb g hB (World.ownsRow.lt h g rfl).2).trans hgg, rest⟩
theorem OwnT.below {T : TypeId} {B : Nat} {w w' : World} {v : Value} {gs : List (Int × Int × Int)} (h : OwnT T B w v gs) (hb : Below w.heap.size w w') : OwnT T B w' v gs := h.block fun k _ hk => hb.block k hk
theorem OwnT.mono {T : TypeId} {B B' : Nat} {w : World} {v : Value} {gs : List (Int × Int × Int)} (h : OwnT T B' w v gs) (hB : B ≤ B') : OwnT T B w v gs := by
  refine ⟨h.1, ?_⟩
  rcases h.2 with hn | ⟨g, cap, cur, rfl, hb, rest⟩
  · exact .inl hn
  · exact .inr ⟨g, cap, cur, rfl, Nat.le_trans hB hb, rest⟩
theorem OwnT.form {T : TypeId} {B : Nat} {w : World} {v : Value} {gs : List (Int × Int × Int)} (h : OwnT T B w v gs) : ∃ A cap, v = .slice A gs.length cap ∧ gs.length ≤ cap ∧ ThreeIn w A gs := by
  rcases h.2 with ⟨rfl, h0⟩ | ⟨g, cap, cur, rfl, hB, hg, hn, _, hs, ht⟩
  · exact ⟨none, 0, by rw [h0], by omega, ⟨fun h => by omega⟩⟩
  · refine ⟨_, cap, rfl, hn, ⟨fun _ => ⟨g, 0, rfl, (World.ownsRow.lt h g rfl).2, fun j p hp => ?_⟩⟩⟩
    have hj : j < gs.length := (List.getElem?_eq_some_iff.1 hp).1
    obtain ⟨h1, h2, h3⟩ := ths_at hp
    rw [← ht, List.getElem?_take_of_lt (by omega), Array.getElem?_toList] at h1 h2 h3
    rw [Nat.zero_add, cell_of_row w g _ cur _ _ hg, cell_of_row w g _ cur _ _ hg, cell_of_row w g _ cur _ _ hg]
    exact ⟨h1, h2, h3⟩
/-- An empty slice in a new block. -/
theorem OwnT.empty (T : TypeId) {B : Nat} (w : World) (hB : B ≤ w.heap.size) : OwnT T B (w.alloc (.cells #[] T)) (.slice (some ⟨w.heap.size, 0, none⟩) 0 0) [] :=
  ⟨rfl, .inr ⟨w.heap.size, 0, #[], rfl, hB, heap_alloc_new w _, Nat.le_refl _, Nat.zero_le _, rfl, rfl⟩⟩
theorem threes_app {T TS : TypeId} (hT : T3 T TS) {B : Nat} {w : World} {v : Value} {us xs : List (Int × Int × Int)} {A : Option Addr} (h : OwnT T B w v us) (hs : ThreeIn w A xs) (c : Nat) (hB : B ≤ w.heap.size) (hn : us.length + xs.length ≤ 100000) :
    ∃ v' W, (∀ ty, (Builtin.append_ #[TS, TS] ty #[v, .slice A xs.length c]).run Try.prog w = .ok v' W) ∧ OwnT T B W v' (us ++ xs) ∧ Below B w W := by
  obtain ⟨i0, hi, hz0, hz1, hz2⟩ := hT.info
  by_cases h0 : 0 < xs.length
  · obtain ⟨b, off, rfl, hl, hc⟩ := hs.at_ h0
    have key := fun ty => run_append_own_at (P := Try.prog) w B TS ty T i0 _ 3 24 hT.under hi hz0 hz1 hz2 rfl (by decide) v us.length (ths us) h
      ⟨b, off, none⟩ xs.length c (ths xs) (ths_length xs) (fun j x hx => by
        have hadd : (⟨b, off, none⟩ : Addr).add j = ⟨b, off + j, none⟩ := by unfold Addr.add; split <;> simp_all
        rw [hadd]
        obtain ⟨k, p, hp, ⟨rfl, rfl⟩ | ⟨rfl, rfl⟩ | ⟨rfl, rfl⟩⟩ := ths_back hx
        · exact (hc k p hp).1
        · exact (hc k p hp).2.1
        · exact (hc k p hp).2.2) (ths_one _) (by simp only [maxLen]; omega) (by omega) hB
    obtain ⟨v', W, hr, h2, h3, _, _⟩ := key 0
    refine ⟨v', W, fun ty => hr, ?_, ⟨h3.os, h3.tape, h3.output, h3.size, fun k hk => h3.block k (by omega) (fun e => by
      have := (World.ownsRow.lt h k e.symm).1
      omega)⟩⟩
    unfold OwnT
    rw [ths_append, List.length_append]
    exact h2
  · obtain rfl : xs = [] := List.eq_nil_of_length_eq_zero (by omega)
    rw [List.append_nil]
    obtain ⟨A', cap, e, hle, -⟩ := h.form
    refine ⟨v, w, fun ty => ?_, h, Below.refl _ _⟩
    rw [e]
    cases A with
    | none => exact run_append_nothing w _ _ ty _ i0 hT.under hi A' us.length cap hle _ (Src.ofNil w hT.under c)
    | some a => exact run_append_nothing w _ _ ty _ i0 hT.under hi A' us.length cap hle _ (Src.ofSlice w hT.under a 0 c [] (by simp) (by simp) (by simp))
def laid3 (w : World) (T : TypeId) (x y z : Int) : World := w.alloc (.cells #[.int .i64 x, .int .i64 y, .int .i64 z] T)
theorem laid3_at (w : World) (T : TypeId) (x y z : Int) : ThreeIn (laid3 w T x y z) (some ⟨w.heap.size, 0, none⟩) [(x, y, z)] ∧ Below w.heap.size w (laid3 w T x y z) := ⟨ths_laid w T [(x, y, z)], (Below.refl _ _).alloc (Nat.le_refl _) _⟩
/-- An append of one in a new block. -/
theorem three_append {T TS : TypeId} (hT : T3 T TS) {B : Nat} {w : World} {v : Value} {us : List (Int × Int × Int)} (h : OwnT T B w v us) (x y z : Int) (hB : B ≤ w.heap.size) (hn : us.length < 100000) :
    ∃ v' W, (∀ ty, (Builtin.append_ #[TS, TS] ty #[v, .slice (some ⟨w.heap.size, 0, none⟩) 1 1]).run Try.prog (laid3 w T x y z) = .ok v' W) ∧ OwnT T B W v' (us ++ [(x, y, z)]) ∧ Below B w W := by
  obtain ⟨h1, h2⟩ := laid3_at w T x y z
  obtain ⟨v', W, hr, ho, hb⟩ := threes_app hT (h.below h2) h1 1 (Nat.le_trans hB h2.size) (by simp only [List.length_cons, List.length_nil]; omega)
  exact ⟨v', W, hr, ho, (h2.mono hB).trans hb⟩
/-- 's[:k]'. -/
theorem front_three {T TS : TypeId} (hT : T3 T TS) {w : World} {A : Option Addr} {gs : List (Int × Int × Int)} (h : ThreeIn w A gs) {k c : Nat} (hk : k ≤ gs.length) (hc : gs.length ≤ c) :
    ∃ A2, (∀ W : World, (Instr.slice TS (.slice A gs.length c) none (some (.int .i64 (k : Int))) none).run Try.prog W = .ok (.slice A2 (gs.take k).length c) W) ∧ ThreeIn w A2 (gs.take k) := by
  have hl : (gs.take k).length = k := by rw [List.length_take]; omega
  refine ⟨if c = 0 then A else A.map (·.add (0 * 3)), fun W => ?_, ⟨fun h0 => ?_⟩⟩
  · rw [run_slice_h (P := Try.prog) W TS A gs.length c hT.elem .i64 (k : Int) (by omega) (by omega), hT.size, hl]
    simp [Result.andThen, sliced]
  · rw [hl] at h0
    obtain ⟨b, off, rfl, hb, hcell⟩ := h.at_ (by omega)
    have hadd : (⟨b, off, none⟩ : Addr).add (0 * 3) = ⟨b, off, none⟩ := by unfold Addr.add; split <;> simp_all
    rw [if_neg (by omega)]
    refine ⟨b, off, by rw [Option.map_some, hadd], hb, fun j p hp => hcell j p ?_⟩
    have hj := lt_of_some hp
    rw [hl] at hj
    rwa [List.getElem?_take_of_lt hj] at hp
/-- 's[k:]'. -/
theorem tail_three {T TS : TypeId} (hT : T3 T TS) {w : World} {A : Option Addr} {gs : List (Int × Int × Int)} (h : ThreeIn w A gs) {k c : Nat} (hk : k ≤ gs.length) (hc : gs.length ≤ c) :
    ∃ A2 c2, (∀ W : World, (Instr.slice TS (.slice A gs.length c) (some (.int .i64 (k : Int))) none none).run Try.prog W = .ok (.slice A2 (gs.drop k).length c2) W) ∧ ThreeIn w A2 (gs.drop k) := by
  refine ⟨if c = k then A else A.map (·.add (k * 3)), c - k, fun W => ?_, ⟨fun h0 => ?_⟩⟩
  · rw [run_slice_l (P := Try.prog) W TS A gs.length c hT.elem .i64 (k : Int) (by omega) (by omega), hT.size, List.length_drop]
    simp [Result.andThen, sliced]
  · rw [List.length_drop] at h0
    obtain ⟨b, off, rfl, hb, hcell⟩ := h.at_ (by omega)
    have hadd : (⟨b, off, none⟩ : Addr).add (k * 3) = ⟨b, off + k * 3, none⟩ := by unfold Addr.add; split <;> simp_all
    rw [if_neg (by omega)]
    refine ⟨b, off + k * 3, by rw [Option.map_some, hadd], hb, fun j p hp => ?_⟩
    rw [List.getElem?_drop] at hp
    have := hcell (k + j) p hp
    rw [show off + k * 3 + j * 3 = off + (k + j) * 3 by omega]
    exact this
/-- Without the one at k: 'append(append([]T{}, s[:k]...), s[k+1:]...)'. -/
theorem without_three {T TS : TypeId} (hT : T3 T TS) {B : Nat} {w : World} {A : Option Addr} {gs : List (Int × Int × Int)} (h : ThreeIn w A gs) {k c : Nat} (hk : k < gs.length) (hc : gs.length ≤ c) (hn : gs.length ≤ 50000) (hB : B ≤ w.heap.size) :
    ∃ A1 A2 c2 v1 v2 W1 W2, (∀ W : World, (Instr.slice TS (.slice A gs.length c) none (some (.int .i64 (k : Int))) none).run Try.prog W = .ok (.slice A1 k c) W) ∧
      (∀ W : World, (Instr.slice TS (.slice A gs.length c) (some (.int .i64 ((k : Int) + 1))) none none).run Try.prog W = .ok (.slice A2 (gs.length - (k + 1)) c2) W) ∧
      (∀ ty, (Builtin.append_ #[TS, TS] ty #[.slice (some ⟨w.heap.size, 0, none⟩) 0 0, .slice A1 k c]).run Try.prog (w.alloc (.cells #[] T)) = .ok v1 W1) ∧
      (∀ ty, (Builtin.append_ #[TS, TS] ty #[v1, .slice A2 (gs.length - (k + 1)) c2]).run Try.prog W1 = .ok v2 W2) ∧
      OwnT T B W2 v2 (gs.take k ++ gs.drop (k + 1)) ∧ Below B w W2 := by
  have bo : Below w.heap.size w (w.alloc (.cells #[] T)) := (Below.refl _ _).alloc (Nat.le_refl _) _
  obtain ⟨A1, r1, t1⟩ := front_three hT h (k := k) (by omega) hc
  obtain ⟨A2, c2, r2, t2⟩ := tail_three hT h (k := k + 1) (by omega) hc
  have l1 : (gs.take k).length = k := by rw [List.length_take]; omega
  obtain ⟨v1, W1, r3, o1, b1⟩ := threes_app hT (OwnT.empty T (B := w.heap.size) w (Nat.le_refl _)) (t1.below bo) c bo.size (by simp only [List.length_nil]; omega)
  rw [List.nil_append] at o1
  obtain ⟨v2, W2, r4, o2, b2⟩ := threes_app hT o1 (t2.below (bo.trans b1)) c2 (Nat.le_trans bo.size b1.size) (by rw [List.length_drop]; omega)
  rw [l1] at r1 r3
  rw [List.length_drop] at r2 r4
  exact ⟨A1, A2, c2, v1, v2, W1, W2, r1, r2, r3, r4, o2.mono hB, ((bo.trans b1).trans b2).mono hB⟩
end Go.Proofs.Ytobkepipmmkboaa
