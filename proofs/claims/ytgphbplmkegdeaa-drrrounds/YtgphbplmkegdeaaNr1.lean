/- The reference's NRounds: its memory. -/
import Derived.Test.YtgphbplmkegdeaaDv3
namespace Go.Proofs.Ytgphbplmkegdeaa
open Go.RowKit Go.Maps

/-- How far each flow is, what each may send yet, what was sent. -/
structure Nv (w wr : World) (B ga n : Nat) (YA : Option Addr) (yc : Nat) (v : Value) (S : List (Nat × Int)) (a : Nat → Nat) (Y : List Int) : Prop where
  below : Below w.heap.size w wr
  mark : B ≤ wr.heap.size
  far : w.heap.size ≤ ga ∧ ga < B
  row : wr.rowIs ga 3 n (fun j => .int .i64 (a j : Int))
  yet : Fifo w.heap.size wr YA Y yc
  len : Y.length = n
  yab : ∀ g, Ab YA g → g < B ∧ g ≠ ga
  sent : OwnS B wr v S
namespace Nv
variable {w wr W : World} {B ga n : Nat} {YA : Option Addr} {yc : Nat} {v : Value} {S : List (Nat × Int)} {a : Nat → Nat} {Y : List Int}
theorem later (h : Nv w wr B ga n YA yc v S a Y) (hb : Below wr.heap.size wr W) : Nv w W B ga n YA yc v S a Y :=
  ⟨h.below.trans (hb.mono h.below.size), Nat.le_trans h.mark hb.size, h.far, h.row.of_block (hb.block _ h.row.lt), h.yet.below hb, h.len, h.yab, h.sent.below hb⟩
theorem drewN (h : Nv w wr B ga n YA yc v S a Y) (q : Nat) : Nv w (wr.drewN q) B ga n YA yc v S a Y := h.later (below_drewN (Below.refl _ _) q)
theorem drew (h : Nv w wr B ga n YA yc v S a Y) : Nv w wr.drew B ga n YA yc v S a Y := h.later (Below.refl _ _).drew
theorem congr (h : Nv w wr B ga n YA yc v S a Y) {a' : Nat → Nat} (e : ∀ j, j < n → a j = a' j) : Nv w wr B ga n YA yc v S a' Y :=
  ⟨h.below, h.mark, h.far, h.row.congr fun j hj => by rw [e j hj], h.yet, h.len, h.yab, h.sent⟩
theorem seatA (h : Nv w wr B ga n YA yc v S a Y) {k : Nat} (hk : k < n) : wr.cell? ⟨ga, k, none⟩ = some (.int .i64 (a k : Int)) ∧ wr.frozen? ⟨ga, k, none⟩ = false := ⟨h.row.cell hk, h.row.frozen k⟩
theorem seatY (h : Nv w wr B ga n YA yc v S a Y) {k : Nat} (hk : k < n) : ∃ g off, YA = some ⟨g, off, none⟩ ∧ g ≠ ga ∧ wr.cell? ⟨g, off + k, none⟩ = some (.int .i64 (fn Y k)) ∧ wr.frozen? ⟨g, off + k, none⟩ = false := by
  have h1 := h.yet.le
  have h2 := h.len
  obtain ⟨g, off, N, F, e, hB, hr, hN, hF⟩ := h.yet.row (by omega)
  exact ⟨g, off, e, (h.yab g ⟨_, e, rfl⟩).2, by rw [hr.cell (by omega), hF k _ (at_fn (by omega))], hr.frozen _⟩
theorem putA (h : Nv w wr B ga n YA yc v S a Y) (k x : Nat) : Nv w (wr.setCell ⟨ga, k, none⟩ (.int .i64 (x : Int))) B ga n YA yc v S (fun j => if j = k then x else a j) Y := by
  obtain ⟨hsz, hbl⟩ := Sv.frame (wr := wr) ⟨ga, k, none⟩ (.int .i64 (x : Int))
  have hf := h.far
  have hm := h.mark
  refine ⟨h.below.setCell (p := ⟨ga, k, none⟩) hf.1 _, by omega, hf, (h.row.set k _).congr fun j _ => ?_, h.yet.of_blocks hsz fun g hg _ => hbl g (h.yab g hg).2, h.len, h.yab, h.sent.block fun g hg _ => hbl g (by show g ≠ ga; omega)⟩
  by_cases e : j = k
  · rw [if_pos e, if_pos e]
  · rw [if_neg e, if_neg e]
theorem putY (h : Nv w wr B ga n YA yc v S a Y) {k : Nat} (hk : k < n) (y : Int) {g off : Nat} (e : YA = some ⟨g, off, none⟩) : Nv w (wr.setCell ⟨g, off + k, none⟩ (.int .i64 y)) B ga n YA yc v S a (Y.set k y) := by
  obtain ⟨hsz, hbl⟩ := Sv.frame (wr := wr) ⟨g, off + k, none⟩ (.int .i64 y)
  have hf := h.far
  have hm := h.mark
  have hg := h.yab g ⟨_, e, rfl⟩
  have hl := h.len
  have hle := h.yet.le
  obtain ⟨g', off', N, F', e', hB, hr, hN, hF⟩ := h.yet.row (by omega)
  rw [e] at e'
  injection e' with e'
  simp only [Addr.mk.injEq, and_true] at e'
  obtain ⟨rfl, rfl⟩ := e'
  refine ⟨h.below.setCell (p := ⟨g, off + k, none⟩) hB _, by omega, hf, h.row.of_block (hbl ga (fun e => hg.2 e.symm)),
    ⟨by rw [List.length_set]; exact hle, h.yet.max, fun h0 => ⟨g, off, N, _, e, hB, hr.set (off + k) (.int .i64 y), hN, fun j x hx => ?_⟩, fun b hb => ⟨(h.yet.ab b hb).1, Nat.lt_of_lt_of_le (h.yet.ab b hb).2 hsz⟩⟩, by rw [List.length_set]; exact hl, h.yab, h.sent.block fun b hb _ => hbl b (by show b ≠ g; omega)⟩
  rw [List.getElem?_set] at hx
  by_cases c : k = j
  · subst c
    rw [if_pos rfl, if_pos (by omega)] at hx
    injection hx with hx
    show (if off + k = off + k then _ else _) = _
    rw [if_pos rfl, hx]
  · rw [if_neg c] at hx
    show (if off + j = off + k then _ else _) = _
    rw [if_neg (by omega)]
    exact hF j x hx
theorem push (h : Nv w wr B ga n YA yc v S a Y) (k : Nat) (b : Int) (hn : S.length ≤ 100000) : ∃ Av nv cv W,
    (∀ ty, (Builtin.append_ #[24, 24] ty #[v, .slice (some ⟨wr.heap.size, 0, none⟩) 1 1]).run Try.prog (laidS wr k b) = .ok (.slice Av nv cv) W) ∧
    Nv w W B ga n YA yc (.slice Av nv cv) (S ++ [(k, b)]) a Y := by
  obtain ⟨v', W, hr, ho, hb⟩ := sent_append h.sent k b h.mark hn
  obtain ⟨Av, cv, ev, -⟩ := ho.form
  generalize (S ++ [(k, b)]).length = nv at ev
  subst ev
  have hf := h.far
  have hm := h.mark
  exact ⟨Av, nv, cv, W, hr, h.below.trans (hb.mono (by omega)), Nat.le_trans hm hb.size, hf, h.row.of_block (hb.block _ hf.2), h.yet.of_blocks hb.size fun g hg _ => hb.block g (h.yab g hg).1, h.len, h.yab, ho⟩
end Nv

/-! ### slices of slices of one's own -/
def OwnV (B : Nat) (w : World) (v : Value) (us : List Value) : Prop := w.ownsRow B 22 1 v us.length us
theorem OwnV.nil (B : Nat) (w : World) : OwnV B w (.slice none 0 0) [] := ⟨rfl, .inl ⟨rfl, rfl⟩⟩
theorem OwnV.below {B : Nat} {w w' : World} {v : Value} {us : List Value} (h : OwnV B w v us) (hb : Below w.heap.size w w') : OwnV B w' v us := by
  refine ⟨h.1, ?_⟩
  rcases h.2 with hn | ⟨g, cap, cur, rfl, hB, hgg, rest⟩
  · exact .inl hn
  · exact .inr ⟨g, cap, cur, rfl, hB, (hb.block g (World.ownsRow.lt h g rfl).2).trans hgg, rest⟩
theorem under_lists : Try.prog.underlying 23 = some (.slice 22) := by kernel_rfl
theorem info_lists : (Try.prog.info? 22).map (fun i => (i.zero, i.size, i.bytes)) = some (some (.slice none 0 0), 1, 24) := by kernel_rfl
def laidV (w : World) (u : Value) : World := w.alloc (.cells #[u] 22)
theorem lists_append {B : Nat} {w : World} {v : Value} {us : List Value} (h : OwnV B w v us) (_hus : ∀ u ∈ us, u.oneCell' = true) (u : Value) (hu : u.oneCell' = true) (hB : B ≤ w.heap.size) (hn : us.length ≤ 1000) :
    ∃ v' W, (∀ ty, (Builtin.append_ #[23, 23] ty #[v, .slice (some ⟨w.heap.size, 0, none⟩) 1 1]).run Try.prog (laidV w u) = .ok v' W) ∧ OwnV B W v' (us ++ [u]) ∧ Below B w W := by
  obtain ⟨i0, hi, hz0, hz1, hz2⟩ := info_three info_lists
  have bo : Below w.heap.size w (laidV w u) := (Below.refl _ _).alloc (Nat.le_refl _) _
  have hsz : (laidV w u).heap.size = w.heap.size + 1 := by simp [laidV]
  have key := fun ty => run_append_own_at (P := Try.prog) (laidV w u) B 23 ty 22 i0 _ 1 24 under_lists hi hz0 hz1 hz2 rfl (by decide) v us.length us (h.below bo)
    ⟨w.heap.size, 0, none⟩ 1 1 [u] rfl (fun j x hx => by
      cases j with
      | zero => simp only [List.getElem?_cons_zero, Option.some.injEq] at hx; subst hx; exact cell_of_row _ _ 0 _ _ _ (heap_alloc_new w _)
      | succ j => simp at hx) (fun x hx => by simp only [List.mem_singleton] at hx; subst hx; exact hu) (by simp only [maxLen]; omega) (by omega) (by omega)
  obtain ⟨v', W, hr, h2, h3, _, _⟩ := key 0
  refine ⟨v', W, fun ty => hr, ?_, ⟨h3.os.trans bo.os, h3.tape.trans bo.tape, h3.output.trans bo.output, by have := h3.size; omega, fun k hk => ?_⟩⟩
  · unfold OwnV
    rw [List.length_append]
    exact h2
  · exact (h3.block k (by omega) (fun e => by
      have := (World.ownsRow.lt (h.below bo) k e.symm).1
      omega)).trans (bo.block k (by omega))
/-- The first i tails. -/
def Tails (w : World) (us : List Value) (L : Nat → List Int) (i : Nat) : Prop := us.length = i ∧ ∀ j, j < i → ∃ A c, us[j]? = some (.slice A (L j).length c) ∧ IntsIn w A (L j) ∧ (L j).length ≤ c
theorem Tails.one {w : World} {us : List Value} {L : Nat → List Int} {i : Nat} (h : Tails w us L i) : ∀ u ∈ us, u.oneCell' = true := fun u hu => by
  obtain ⟨j, hj⟩ := List.getElem?_of_mem hu
  have hl := lt_of_some hj
  rw [h.1] at hl
  obtain ⟨A, c, e, _⟩ := h.2 j hl
  rw [hj] at e
  injection e with e
  subst e
  rfl
theorem Tails.next {w W : World} {us : List Value} {L : Nat → List Int} {i : Nat} (h : Tails w us L i) (hb : Below w.heap.size w W) {A : Option Addr} {c : Nat} (hi : IntsIn W A (L i)) (hc : (L i).length ≤ c) : Tails W (us ++ [.slice A (L i).length c]) L (i + 1) := by
  have hl := h.1
  refine ⟨by rw [List.length_append, hl]; rfl, fun j hj => ?_⟩
  by_cases e : j = i
  · subst e
    exact ⟨A, c, by rw [List.getElem?_append_right (by omega), hl, Nat.sub_self]; rfl, hi, hc⟩
  · obtain ⟨A2, c2, h1, h2, h3⟩ := h.2 j (by omega)
    exact ⟨A2, c2, by rw [List.getElem?_append_left (by omega)]; exact h1, h2.below hb, h3⟩
theorem OwnV.lists {B n : Nat} {w : World} {v : Value} {us : List Value} {L : List (List Int)} (h : OwnV B w v us) (hT : Tails w us (fl L) n) (hL : L.length = n) (hn : n ≤ 16) : ∃ A c, v = .slice A L.length c ∧ ListsIn w A L := by
  have hl := hT.1
  rcases h.2 with ⟨rfl, h0⟩ | ⟨g, cap, cur, rfl, hB, hg, hc, _, hs, ht⟩
  · obtain rfl : L = [] := List.eq_nil_of_length_eq_zero (by omega)
    exact ⟨none, 0, rfl, ListsIn.nil _ _⟩
  · refine ⟨_, cap, by rw [hl, hL], ⟨fun _ => ⟨g, 0, rfl, (World.ownsRow.lt h g rfl).2, fun j f hf => ?_⟩, by omega⟩⟩
    have hj := lt_of_some hf
    obtain ⟨A, c, h1, h2, h3⟩ := hT.2 j (by omega)
    rw [fl_at hf] at h1 h2 h3
    refine ⟨A, c, ?_, h2, h3⟩
    rw [← ht, List.getElem?_take_of_lt (by omega), Array.getElem?_toList] at h1
    rw [Nat.zero_add, cell_of_row w g _ cur _ _ hg]
    exact h1
end Go.Proofs.Ytgphbplmkegdeaa
