/- The queue as a whole, empty or not; what an append to its items makes of it. -/
import Derived.Test.YtbckppflfgdblaaHp5
import Derived.Deep.AppendLies
namespace Go.Proofs.Ytbckppflfgdblaa
open Go.RowKit Go.Maps

/-- Block q is a queue of n items f; if it has an array, that lies from block B on. -/
def Qs (B : Nat) (w : World) (q m n : Nat) (P : Value) (f : Nat → It) : Prop :=
  (n = 0 ∧ w.rowIs q 55 3 (tri (.slice none 0 0) (.map (some m)) P) ∧ ∃ p, MapIs w m 0 p ∧ PlaceOk p f 0) ∨ ∃ g cap, B ≤ g ∧ QH w q g m cap n P f

def push1 (f : Nat → It) (n : Nat) (x : It) : Nat → It := fun j => if j = n then x else f j
theorem push1_n (f : Nat → It) (n : Nat) (x : It) : push1 f n x n = x := by simp [push1]
theorem push1_o (f : Nat → It) {n j : Nat} (x : It) (h : j ≠ n) : push1 f n x j = f j := by simp [push1, h]
theorem Heap.push1 {f : Nat → It} {n : Nat} (h : Heap f n) (x : It) : HB (push1 f n x) (n + 1) n := by
  refine ⟨fun j j0 j1 j2 j3 => ?_, fun j j0 j1 j2 j3 => ?_⟩
  · rw [push1_o f x j2, push1_o f x j3]; exact h j j0 (by omega)
  · have := par_lt j0; omega
theorem Rep.push1 {f : Nat → It} {n : Nat} {M : Held} (h : Rep f n M) {x : It} (hx : M x.id = none) : Rep (push1 f n x) (n + 1) (updM M x.id x.key) := by
  have hne : ∀ j, j < n → (f j).id ≠ x.id := fun j hj e => by have := h.held j hj; rw [e, hx] at this; cases this
  refine ⟨fun j hj => ?_, fun y k hy => ?_, fun i j hi hj he => ?_⟩
  · unfold updM
    by_cases e : j = n
    · subst e; rw [push1_n, if_pos rfl]
    · rw [push1_o f x e, if_neg (hne j (by omega))]; exact h.held j (by omega)
  · unfold updM at hy
    by_cases e : y = x.id
    · exact ⟨n, by omega, by rw [push1_n, e]⟩
    · rw [if_neg e] at hy
      obtain ⟨j, hj, e2⟩ := h.all y k hy
      exact ⟨j, by omega, by rw [push1_o f x (by omega)]; exact e2⟩
  · by_cases e1 : i = n
    · by_cases e2 : j = n
      · omega
      · rw [e1, push1_n, push1_o f x e2] at he
        exact absurd he.symm (hne j (by omega))
    · by_cases e2 : j = n
      · rw [e2, push1_n, push1_o f x e1] at he
        exact absurd he (hne i (by omega))
      · rw [push1_o f x e1, push1_o f x e2] at he
        exact h.one i j (by omega) (by omega) he
theorem PlaceOk.push1 {p : Places} {f : Nat → It} {n : Nat} (h : PlaceOk p f n) {x : It} (hx : ∀ j, j < n → (f j).id ≠ x.id) : PlaceOk (upd p x.id n) (push1 f n x) (n + 1) := by
  intro y v
  unfold upd
  by_cases e : y = x.id
  · subst e
    simp only [if_true, Option.some.injEq]
    constructor
    · rintro rfl; exact ⟨n, by omega, by rw [push1_n], rfl⟩
    · rintro ⟨j, hj, h1, rfl⟩
      by_cases e : j = n
      · rw [e]
      · rw [push1_o f x e] at h1; exact absurd h1 (hx j (by omega))
  · simp only [e, if_false]
    rw [h y v]
    constructor
    · rintro ⟨j, hj, h1, rfl⟩
      exact ⟨j, by omega, by rw [push1_o f x (by omega)]; exact h1, rfl⟩
    · rintro ⟨j, hj, h1, rfl⟩
      by_cases e2 : j = n
      · rw [e2, push1_n] at h1; exact absurd h1.symm e
      · rw [push1_o f x e2] at h1; exact ⟨j, by omega, h1, rfl⟩

theorem Try.info71 : (Try.prog.info? 71).map (fun i => (i.zero, i.size, i.bytes)) = some (some (.agg #[.int .i64 0, .int .u64 0, .int .u64 0]), 3, 24) := by kernel_rfl
theorem Try.underlying53 : Try.prog.underlying 53 = some (.slice 71) := by kernel_rfl
def cells3 (x : It) : Array Value := #[.int .i64 x.id, .int .u64 x.hi, .int .u64 x.lo]
theorem cells3_one (x : It) : ∀ u ∈ (cells3 x).toList, u.oneCell' = true := by
  intro u hu
  simp [cells3] at hu
  rcases hu with rfl | rfl | rfl <;> rfl

/-- What a queue's items are to append. -/
theorem owns_items {w : World} {B g cap n : Nat} {F : Nat → Value} (h : w.rowIs g 71 (cap * 3) F) (hB : B ≤ g) (hn : n ≤ cap) (hc : cap ≤ 9223372036854775807) :
    ∃ xs, w.ownsRow B 71 3 (.slice (some ⟨g, 0, none⟩) n cap) n xs ∧ ∀ j, j < n * 3 → xs[j]? = some (F j) := by
  obtain ⟨c, hb, hs, hcell⟩ := h
  refine ⟨c.toList.take (n * 3), ⟨?_, .inr ⟨g, cap, c, rfl, hB, hb, hn, hc, hs, rfl⟩⟩, fun j hj => ?_⟩
  · rw [List.length_take, Array.length_toList, hs]; omega
  · rw [List.getElem?_take_of_lt hj]
    have := hcell j (by omega)
    simpa using this

theorem getD_some (c : Array Value) {j : Nat} (h : j < c.size) : c[j]? = some (c[j]?.getD undef) := by rw [Array.getElem?_eq_getElem h]; rfl
theorem items_owned {w : World} {B g cap n : Nat} {xs : List Value} (h : w.ownsRow B 71 3 (.slice (some ⟨g, 0, none⟩) n cap) n xs) (_ : 0 < n) :
    ∃ F, w.rowIs g 71 (cap * 3) F ∧ B ≤ g ∧ n ≤ cap ∧ cap ≤ 9223372036854775807 ∧ ∀ j, j < n * 3 → xs[j]? = some (F j) := by
  rcases h.2 with ⟨h1, _⟩ | ⟨g', cap', cur, hv, hB, hb, hn, hc, hs, ht⟩
  · cases h1
  · simp only [Value.slice.injEq, Option.some.injEq, Addr.mk.injEq] at hv
    obtain ⟨⟨rfl, _⟩, _, rfl⟩ := hv
    refine ⟨fun j => cur[j]?.getD undef, ⟨cur, hb, hs, fun i hi => ?_⟩, hB, hn, hc, fun j hj => ?_⟩
    · exact getD_some cur (by omega)
    · rw [← ht, List.getElem?_take_of_lt hj, Array.getElem?_toList]
      exact getD_some cur (by omega)

/-- The block of a slice's array. -/
def Ab (A : Option Addr) (k : Nat) : Prop := ∃ a, A = some a ∧ a.block = k

/-- 'q.items = append(q.items, x)': the append itself. -/
theorem push_append {B : Nat} {w : World} {q m n : Nat} {P : Value} {f : Nat → It} (h : Qs B w q m n P f) (hn : n + 1 ≤ 5000000000000) (hB : B ≤ w.heap.size) (x : It) {A : Option Addr} {cap : Nat} (hA : w.cell? ⟨q, 0, none⟩ = some (.slice A n cap)) :
    ∃ g cap' W, (Builtin.append_ #[53, 53] 53 #[.slice A n cap, .slice (some ⟨w.heap.size, 0, none⟩) 1 1]).run Try.prog (w.alloc (.cells (cells3 x) 71)).drew = .ok (.slice (some ⟨g, 0, none⟩) (n + 1) cap') W ∧
      Chg (Ab A) w W ∧ B ≤ g ∧ n + 1 ≤ cap' ∧ cap' ≤ 9223372036854775807 ∧ ∃ F, W.rowIs g 71 (cap' * 3) F ∧ ∀ j, j < n + 1 → ItAt F j (push1 f n x j) := by
  obtain ⟨i0, hi, hz0, hz1, hz2⟩ := info_parts Try.info71
  have hsz : (w.alloc (.cells (cells3 x) 71)).drew.heap.size = w.heap.size + 1 := by show (w.alloc _).heap.size = _; simp
  have hnew : (w.alloc (.cells (cells3 x) 71)).drew.heap[w.heap.size]? = some (.cells (cells3 x) 71) := heap_alloc_new w _
  have hch : ∀ S, Chg S w (w.alloc (.cells (cells3 x) 71)).drew := fun S => ((Chg.refl S w).alloc _).drew
  have key : ∃ xs, (w.alloc (.cells (cells3 x) 71)).drew.ownsRow B 71 3 (.slice A n cap) n xs ∧ ∀ j, j < n → xs[j * 3]? = some (.int .i64 (f j).id) ∧ xs[j * 3 + 1]? = some (.int .u64 (f j).hi) ∧ xs[j * 3 + 2]? = some (.int .u64 (f j).lo) := by
    rcases h with ⟨rfl, hrow, _⟩ | ⟨g, cap0, hg, hQ⟩
    · have e := hrow.cell (i := 0) (by omega)
      rw [e] at hA
      simp only [tri, if_true, Option.some.injEq, Value.slice.injEq] at hA
      obtain ⟨rfl, _, rfl⟩ := hA
      exact ⟨[], World.ownsRow_nil _ _ _ _, fun j hj => by omega⟩
    · rw [hQ.c0] at hA
      simp only [Option.some.injEq, Value.slice.injEq] at hA
      obtain ⟨rfl, _, rfl⟩ := hA
      obtain ⟨F, hF, hf⟩ := hQ.items
      obtain ⟨xs, h1, h2⟩ := owns_items (hF.of_block ((hch (fun _ => False)).block g hF.lt id)) hg hQ.ncap hQ.capm
      refine ⟨xs, h1, fun j hj => ?_⟩
      obtain ⟨a, b, c⟩ := hf j hj
      exact ⟨by rw [h2 _ (by omega), a], by rw [h2 _ (by omega), b], by rw [h2 _ (by omega), c]⟩
  obtain ⟨xs, hown, hxs⟩ := key
  obtain ⟨g, cap', W, hr, h2, h3, _, _⟩ := run_append_lies (P := Try.prog) _ 53 53 B 71 i0 (.agg #[.int .i64 0, .int .u64 0, .int .u64 0]) 3 24 Try.underlying53 hi hz0 hz1 hz2 rfl (by decide) (.slice A n cap) n xs hown
    ⟨w.heap.size, 0, none⟩ 1 1 (cells3 x).toList rfl (World.news_of_block hnew) (cells3_one x) (by decide) (by simp only [maxLen]; omega) (by omega) (by rw [hsz]; omega) _ rfl
  obtain ⟨F, hF, hBg, hnc, hcm, hxF⟩ := items_owned h2 (by omega)
  refine ⟨g, cap', W, hr, (hch _).trans ?_, hBg, hnc, hcm, F, hF, fun j hj => ?_⟩
  · refine Chg.of_grown h3 (fun k hk => ?_)
    cases A with
    | none => cases hk
    | some a => exact ⟨a, rfl, by simpa [Value.ownBlock] using hk⟩
  · have hl := hown.1
    by_cases e : j = n
    · subst e
      rw [push1_n]
      refine ⟨?_, ?_, ?_⟩
      · have := hxF (j * 3) (by omega)
        rw [List.getElem?_append_right (by omega), hl, Nat.sub_self] at this
        simpa [cells3] using this.symm
      · have := hxF (j * 3 + 1) (by omega)
        rw [List.getElem?_append_right (by omega), hl, Nat.add_sub_cancel_left] at this
        simpa [cells3] using this.symm
      · have := hxF (j * 3 + 2) (by omega)
        rw [List.getElem?_append_right (by omega), hl, Nat.add_sub_cancel_left] at this
        simpa [cells3] using this.symm
    · rw [push1_o f x e]
      obtain ⟨a, b, c⟩ := hxs j (by omega)
      refine ⟨?_, ?_, ?_⟩
      · have := hxF (j * 3) (by omega)
        rw [List.getElem?_append_left (by omega), a] at this
        simpa using this.symm
      · have := hxF (j * 3 + 1) (by omega)
        rw [List.getElem?_append_left (by omega), b] at this
        simpa using this.symm
      · have := hxF (j * 3 + 2) (by omega)
        rw [List.getElem?_append_left (by omega), c] at this
        simpa using this.symm

end Go.Proofs.Ytbckppflfgdblaa
