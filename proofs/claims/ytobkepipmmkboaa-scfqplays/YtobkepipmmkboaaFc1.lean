/- Slices of one's own, whatever their elements (so many cells each), from wherever in their row on: append, 's[1:]'. -/
import Derived.Test.YtobkepipmmkboaaIn3b
namespace Go.Proofs.Ytobkepipmmkboaa
open Go.RowKit Go.Maps

/-- What must be known of the types (T: the element's, TS: its slice's; so many cells, so many bytes). -/
structure TC (T TS : TypeId) (s y : Nat) : Prop where
  under : Try.prog.underlying TS = some (.slice T)
  elem : Try.prog.underlying TS = some (.slice (Try.prog.elem TS))
  size : ∀ w : World, (sizeOf (Try.prog.elem TS)).run Try.prog w = .ok s w
  info : ∃ i z, Try.prog.info? T = some i ∧ i.zero = some z ∧ z.cells.size = s ∧ i.size = s ∧ i.bytes = y
  pos : 0 < s
/-- So many elements (their cells one behind the other), with what is behind them. -/
structure FifoC (T : TypeId) (s B : Nat) (w : World) (A : Option Addr) (n : Nat) (us : List Value) (cap : Nat) : Prop where
  len : us.length = n * s
  le : n ≤ cap
  max : cap ≤ maxLen
  row : 0 < cap → ∃ g off N F, A = some ⟨g, off, none⟩ ∧ B ≤ g ∧ w.rowIs g T N F ∧ off + cap * s ≤ N ∧ ∀ j x, us[j]? = some x → F (off + j) = x
  ab : ∀ g, Ab A g → B ≤ g ∧ g < w.heap.size
namespace FifoC
variable {T : TypeId} {s B : Nat} {w w' : World} {A : Option Addr} {n : Nat} {us : List Value} {cap : Nat}
theorem nil (T : TypeId) (s B : Nat) (w : World) : FifoC T s B w none 0 [] 0 := ⟨by simp, Nat.le_refl _, Nat.zero_le _, fun h => by omega, fun _ h => by obtain ⟨_, h, _⟩ := h; cases h⟩
theorem of_blocks (h : FifoC T s B w A n us cap) (hs : w.heap.size ≤ w'.heap.size) (hb : ∀ g, Ab A g → g < w.heap.size → w'.heap[g]? = w.heap[g]?) : FifoC T s B w' A n us cap := by
  refine ⟨h.len, h.le, h.max, fun h0 => ?_, fun g hg => ⟨(h.ab g hg).1, Nat.lt_of_lt_of_le (h.ab g hg).2 hs⟩⟩
  obtain ⟨g, off, N, F, rfl, hg, hr, hN, hF⟩ := h.row h0
  exact ⟨g, off, N, F, rfl, hg, hr.of_block (hb g ⟨_, rfl, rfl⟩ hr.lt), hN, hF⟩
theorem below (h : FifoC T s B w A n us cap) (hb : Below w.heap.size w w') : FifoC T s B w' A n us cap := h.of_blocks hb.size fun g _ hg => hb.block g hg
theorem chg {S : Nat → Prop} (h : FifoC T s B w A n us cap) (hb : Chg S w w') (hS : ∀ g, Ab A g → ¬ S g) : FifoC T s B w' A n us cap := h.of_blocks hb.size fun g ha hg => hb.block g hg (hS g ha)
theorem mono {B' : Nat} (h : FifoC T s B w A n us cap) (hB : B' ≤ B) : FifoC T s B' w A n us cap := by
  refine ⟨h.len, h.le, h.max, fun h0 => ?_, fun g hg => ⟨Nat.le_trans hB (h.ab g hg).1, (h.ab g hg).2⟩⟩
  obtain ⟨g, off, N, F, e, hg, rest⟩ := h.row h0
  exact ⟨g, off, N, F, e, Nat.le_trans hB hg, rest⟩
theorem of_owns {v : Value} (h : w.ownsRow B T s v n us) : ∃ A cap, v = .slice A n cap ∧ FifoC T s B w A n us cap ∧ (∀ g, Ab A g → v.ownBlock = some g) := by
  have hl := h.1
  rcases h.2 with ⟨rfl, h0⟩ | ⟨g, cap, cur, rfl, hB, hg, hn, hm, hs, ht⟩
  · subst h0
    obtain rfl : us = [] := List.eq_nil_of_length_eq_zero (by rw [hl, Nat.zero_mul])
    exact ⟨none, 0, rfl, FifoC.nil _ _ _ _, fun _ h => by obtain ⟨_, h, _⟩ := h; cases h⟩
  · have hls : n * s ≤ cap * s := Nat.mul_le_mul_right s hn
    refine ⟨_, cap, rfl, ⟨hl, hn, hm, fun _ => ⟨g, 0, cap * s, fun i => cur.getD i undef, rfl, hB, ⟨cur, hg, hs, fun i hi => ?_⟩, by omega, fun j x hx => ?_⟩, ?_⟩, ?_⟩
    · show cur[i]? = some (cur.getD i undef)
      rw [Array.getD_eq_getD_getElem?, Array.getElem?_eq_getElem (by omega)]; rfl
    · have hj := lt_of_some hx
      rw [← ht, List.getElem?_take_of_lt (by omega), Array.getElem?_toList] at hx
      rw [Nat.zero_add]
      show cur.getD j undef = _
      rw [Array.getD_eq_getD_getElem?, hx]; rfl
    · rintro k ⟨a, e, rfl⟩
      injection e with e
      subst e
      exact ⟨hB, (Array.getElem?_eq_some_iff.1 hg).1⟩
    · rintro k ⟨a, e, rfl⟩
      injection e with e
      subst e
      rfl
/-- Where an element's cells lie. -/
theorem cell (h : FifoC T s B w A n us cap) (h0 : 0 < n) : ∃ g off, A = some ⟨g, off, none⟩ ∧ ∀ j x, us[j]? = some x → w.cell? ⟨g, off + j, none⟩ = some x := by
  have hle := h.le
  have hl := h.len
  have hls : n * s ≤ cap * s := Nat.mul_le_mul_right s hle
  obtain ⟨g, off, N, F, rfl, hg, hr, hN, hF⟩ := h.row (by omega)
  refine ⟨g, off, rfl, fun j x hx => ?_⟩
  have := lt_of_some hx
  rw [hr.cell (by omega), hF j x hx]
/-- Without the first element. -/
theorem tail {n : Nat} {x us : List Value} (h : FifoC T s B w A (n + 1) (x ++ us) cap) (hx : x.length = s) : ∃ g off, A = some ⟨g, off, none⟩ ∧ FifoC T s B w (some ⟨g, off + s, none⟩) n us (cap - 1) ∧ (cap = 1 → FifoC T s B w A n us 0) ∧ 0 < cap := by
  have hle := h.le
  have hl := h.len
  have hm := h.max
  have e1 : (n + 1) * s = n * s + s := by rw [Nat.add_mul, Nat.one_mul]
  rw [List.length_append, hx, e1] at hl
  obtain ⟨g, off, N, F, rfl, hg, hr, hN, hF⟩ := h.row (by omega)
  have e2 : (cap - 1) * s + s = cap * s := by
    rw [← Nat.succ_mul, Nat.succ_eq_add_one, Nat.sub_add_cancel (by omega)]
  refine ⟨g, off, rfl, ⟨by omega, by omega, by omega, fun _ => ⟨g, off + s, N, F, rfl, hg, hr, by omega, fun j y hy => ?_⟩, ?_⟩, fun e => ?_, by omega⟩
  · have := hF (s + j) y (by rw [List.getElem?_append_right (by omega), hx, show s + j - s = j by omega]; exact hy)
    rwa [show off + (s + j) = off + s + j by omega] at this
  · rintro k ⟨a, e, rfl⟩
    injection e with e
    subst e
    exact ⟨hg, hr.lt⟩
  · obtain rfl : n = 0 := by omega
    exact ⟨by omega, by omega, by omega, fun h0 => by omega, h.ab⟩
end FifoC
theorem setCells_rowT {T : TypeId} {g N : Nat} : ∀ (ys : List Value) (o : Nat) {w : World} {F : Nat → Value}, w.rowIs g T N F →
    ∃ F', (w.setCells g o ys).rowIs g T N F' ∧ (∀ i, i < o ∨ o + ys.length ≤ i → F' i = F i) ∧ (∀ j u, ys[j]? = some u → F' (o + j) = u) ∧ Chg (· = g) w (w.setCells g o ys)
  | [], _, w, F, h => ⟨F, h, fun _ _ => rfl, fun _ _ h => by simp at h, Chg.refl _ _⟩
  | y :: r, o, w, F, h => by
    obtain ⟨F', h1, h2, h3, h4⟩ := setCells_rowT r (o + 1) (h.set o y)
    refine ⟨F', h1, fun i hi => ?_, fun j u hu => ?_, ((Chg.refl (· = g) w).set (p := ⟨g, o, none⟩) (Or.inl rfl) y).trans h4⟩
    · rw [List.length_cons] at hi
      rw [h2 i (by omega), if_neg (by omega)]
    · cases j with
      | zero =>
        simp only [List.getElem?_cons_zero, Option.some.injEq] at hu
        subst hu
        rw [Nat.add_zero, h2 o (by omega), if_pos rfl]
      | succ j =>
        rw [show o + (j + 1) = o + 1 + j by omega]
        exact h3 j u (by simpa using hu)
/-- An append of elements that lie somewhere. -/
theorem fc_append {T TS : TypeId} {s y : Nat} (hT : TC T TS s y) {B : Nat} {w : World} {A : Option Addr} {n : Nat} {us : List Value} {cap : Nat} (h : FifoC T s B w A n us cap) {gb gof m : Nat} {xs : List Value} (hl : xs.length = m * s) (hx : ∀ j u, xs[j]? = some u → w.cell? ⟨gb, gof + j, none⟩ = some u) (h1 : ∀ u ∈ xs, u.oneCell' = true) (capy : Nat) (hB : B ≤ w.heap.size) (hn : n + m ≤ maxLen) (hy : (n + m) * y ≤ 140737488355328) (h0 : 0 < m) :
    ∃ A' cap' W, (∀ ty, (Builtin.append_ #[TS, TS] ty #[.slice A n cap, .slice (some ⟨gb, gof, none⟩) m capy]).run Try.prog w = .ok (.slice A' (n + m) cap') W) ∧
      FifoC T s B W A' (n + m) (us ++ xs) cap' ∧ Chg (Ab A) w W ∧ ∀ g, Ab A' g → Ab A g ∨ w.heap.size ≤ g := by
  obtain ⟨i, z, hi, hz0, hzs, hz1, hz2⟩ := hT.info
  have hul := h.len
  have hadd : ∀ (g o j : Nat), (⟨g, o, none⟩ : Addr).add j = ⟨g, o + j, none⟩ := fun g o j => by unfold Addr.add; split <;> simp_all
  have hnews : ∀ j u, xs[j]? = some u → w.cell? ((⟨gb, gof, none⟩ : Addr).add j) = some u := fun j u hu => by rw [hadd]; exact hx j u hu
  have hlen : (us ++ xs).length = (n + m) * s := by rw [List.length_append, hul, hl, Nat.add_mul]
  have grown : ∀ (b : Addr), (∀ j u, us[j]? = some u → w.cell? (b.add j) = some u) → cap < n + m → A = some b →
      ∃ A' cap' W, (∀ ty, (Builtin.append_ #[TS, TS] ty #[.slice A n cap, .slice (some ⟨gb, gof, none⟩) m capy]).run Try.prog w = .ok (.slice A' (n + m) cap') W) ∧
      FifoC T s B W A' (n + m) (us ++ xs) cap' ∧ Chg (Ab A) w W ∧ ∀ g, Ab A' g → Ab A g ∨ w.heap.size ≤ g := by
    intro b hb hg e
    subst e
    have key := fun ty => run_append_arg_grows (P := Try.prog) w TS ty T i z s y hT.under hi hz0 hz1 hz2 hzs hT.pos b n cap us hul hb ⟨gb, gof, none⟩ m capy xs hl hnews hg hn hy
    obtain ⟨v', W, hr, ho, hgr⟩ := key 0
    obtain ⟨A', cap', rfl, hf, hab⟩ := FifoC.of_owns ho
    exact ⟨A', cap', W, fun ty => hr, hf.mono hB, Chg.of_grown hgr (fun k e => by cases e), fun g hg => .inr (hf.ab g hg).1⟩
  by_cases hroom : n + m ≤ cap
  · obtain ⟨g, off, N, F, rfl, hg, hr, hN, hF⟩ := h.row (by omega)
    have hrs : n * s + m * s ≤ cap * s := by rw [← Nat.add_mul]; exact Nat.mul_le_mul_right s hroom
    obtain ⟨F', k1, k2, k3, k4⟩ := setCells_rowT (w := w) (F := F) xs (off + n * s) hr
    have hrun := fun ty => run_append_room_cells (P := Try.prog) w TS ty T i hT.under hi g off n cap ⟨gb, gof, none⟩ m capy xs (by rw [hz1]; exact hl) hnews h1 hroom
      (fun j hj => by rw [hz1, hr.cell (by omega)]; rfl) (fun j _ => hr.frozen _)
    rw [hz1] at hrun
    refine ⟨_, _, _, hrun, ⟨hlen, hroom, h.max, fun _ => ⟨g, off, N, F', rfl, hg, k1, hN, fun j x hj => ?_⟩, fun g hg => ⟨(h.ab g hg).1, Nat.lt_of_lt_of_le (h.ab g hg).2 k4.size⟩⟩, k4.mono (fun k _ e => ⟨_, rfl, e.symm⟩), fun k hk => .inl hk⟩
    rcases Nat.lt_or_ge j us.length with hj2 | hj2
    · rw [List.getElem?_append_left hj2] at hj
      rw [k2 _ (by omega), hF j x hj]
    · rw [List.getElem?_append_right hj2] at hj
      have := k3 _ _ hj
      rwa [show off + n * s + (j - us.length) = off + j by omega] at this
  · by_cases hc : 0 < cap
    · obtain ⟨g, off, N, F, e, hg, hr, hN, hF⟩ := h.row hc
      refine grown ⟨g, off, none⟩ (fun j u hu => ?_) (by omega) e
      have hle := Nat.mul_le_mul_right s h.le
      have hj := lt_of_some hu
      rw [hadd, hr.cell (by omega), hF j u hu]
    · have hle := h.le
      obtain rfl : n = 0 := by omega
      obtain rfl : us = [] := List.eq_nil_of_length_eq_zero (by rw [hul, Nat.zero_mul])
      obtain rfl : cap = 0 := by omega
      cases A with
      | some b => exact grown b (fun j u hu => by simp at hu) (by omega) rfl
      | none =>
        have key := fun ty => run_append_own_at (P := Try.prog) w w.heap.size TS ty T i z s y hT.under hi hz0 hz1 hz2 hzs hT.pos (.slice none 0 0) 0 [] (World.ownsRow_nil _ _ _ _)
          ⟨gb, gof, none⟩ m capy xs hl hnews h1 hn hy (Nat.le_refl _)
        obtain ⟨v', W, hr, ho, hgr, _, _⟩ := key 0
        rw [Nat.zero_add, List.nil_append] at ho
        obtain ⟨A', cap', rfl, hf, hab⟩ := FifoC.of_owns ho
        rw [Nat.zero_add, List.nil_append]
        exact ⟨A', cap', W, fun ty => hr, hf.mono hB, Chg.of_grown hgr (fun k e => by cases e), fun g hg => .inr (hf.ab g hg).1⟩
/-- An append of one element in a new block. -/
theorem fc_one {T TS : TypeId} {s y : Nat} (hT : TC T TS s y) {B : Nat} {w : World} {A : Option Addr} {n : Nat} {us : List Value} {cap : Nat} (h : FifoC T s B w A n us cap) {xs : List Value} (hl : xs.length = s) (h1 : ∀ u ∈ xs, u.oneCell' = true) (hB : B ≤ w.heap.size) (hn : n + 1 ≤ maxLen) (hy : (n + 1) * y ≤ 140737488355328) :
    ∃ A' cap' W, (∀ ty, (Builtin.append_ #[TS, TS] ty #[.slice A n cap, .slice (some ⟨w.heap.size, 0, none⟩) 1 1]).run Try.prog (w.alloc (.cells xs.toArray T)) = .ok (.slice A' (n + 1) cap') W) ∧
      FifoC T s B W A' (n + 1) (us ++ xs) cap' ∧ Chg (Ab A) w W ∧ ∀ g, Ab A' g → Ab A g ∨ w.heap.size ≤ g := by
  have bo : Below w.heap.size w (w.alloc (.cells xs.toArray T)) := (Below.refl _ _).alloc (Nat.le_refl _) _
  obtain ⟨A', cap', W, hr, hf, hc, hg⟩ := fc_append hT (h.below bo) (gb := w.heap.size) (gof := 0) (m := 1) (xs := xs) (by omega) (fun j u hu => by
    rw [Nat.zero_add, cell_of_row _ _ j _ _ _ (heap_alloc_new w _)]
    simpa using hu) h1 1 (Nat.le_trans hB bo.size) hn hy (by decide)
  exact ⟨A', cap', W, hr, hf, (Chg.of_below bo _).trans hc, fun g h2 => (hg g h2).imp id fun h3 => Nat.le_trans bo.size h3⟩
/-- 's[1:]'. -/
theorem FifoC.tail_run {T TS : TypeId} {s y : Nat} (hT : TC T TS s y) {B : Nat} {w : World} {A : Option Addr} {n : Nat} {x us : List Value} {cap : Nat} (h : FifoC T s B w A (n + 1) (x ++ us) cap) (hx : x.length = s) :
    ∃ g off A' cap', A = some ⟨g, off, none⟩ ∧ (∀ j u, x[j]? = some u → w.cell? ⟨g, off + j, none⟩ = some u) ∧
      (∀ W : World, (Instr.slice TS (.slice (some ⟨g, off, none⟩) (n + 1) cap) (some (.int .i64 1)) none none).run Try.prog W = .ok (.slice A' n cap') W) ∧
      FifoC T s B w A' n us cap' ∧ ∀ k, Ab A' k → Ab A k := by
  obtain ⟨g0, off0, e0, hcell⟩ := h.cell (by omega)
  obtain ⟨g, off, rfl, h1, h2, h0⟩ := h.tail hx
  injection e0 with e0
  simp only [Addr.mk.injEq, and_true] at e0
  obtain ⟨rfl, rfl⟩ := e0
  have hadd : (⟨g, off, none⟩ : Addr).add (1 * s) = ⟨g, off + s, none⟩ := by unfold Addr.add; split <;> simp_all
  have hr := fun W : World => run_slice_l (P := Try.prog) W TS (some ⟨g, off, none⟩) (n + 1) cap hT.elem .i64 1 (by omega) (by omega)
  have hc : ∀ j u, x[j]? = some u → w.cell? ⟨g, off + j, none⟩ = some u := fun j u hu => hcell j u (by rw [List.getElem?_append_left (lt_of_some hu)]; exact hu)
  by_cases c : cap = 1
  · refine ⟨g, off, some ⟨g, off, none⟩, 0, rfl, hc, fun W => ?_, h2 c, fun _ hk => hk⟩
    rw [hr W, hT.size]
    simp [Result.andThen, sliced, c]
  · refine ⟨g, off, some ⟨g, off + s, none⟩, cap - 1, rfl, hc, fun W => ?_, h1, ?_⟩
    · rw [hr W, hT.size]
      rw [Nat.one_mul] at hadd
      simp [Result.andThen, sliced, c, hadd]
    · rintro k ⟨a, e, rfl⟩
      injection e with e
      subst e
      exact ⟨_, rfl, rfl⟩
end Go.Proofs.Ytobkepipmmkboaa
