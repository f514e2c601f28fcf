/- slices.Insert of one operation ahead of operations of the call's own. -/
import Derived.Test.YtbckppflfgdblaaHp16
import Derived.Lib.AppendZerosOnto
import Derived.Lib.AppendZeros
import Derived.Lib.Overlaps
import Derived.Laws.Externs
import Derived.Laws.IdiomCopy
namespace Go.Proofs.Ytbckppflfgdblaa
open Go.RowKit Go.Maps

theorem run_copy_k {P : Program} (w : World) (dT sT ty elem : TypeId) (b o dLen dCap : Nat) (a : Addr) (sLen sCap k : Nat) (cs : List Value)
    (hu : P.underlying dT = some (.slice elem)) (hs : (P.info? elem).map (·.size) = some k) (hn : cs.length = Nat.min sLen dLen * k)
    (hsrc : ∀ j v, cs[j]? = some v → w.cell? (a.add j) = some v) (hc : ∀ j, j < cs.length → (w.cell? ⟨b, o + j, none⟩).isSome = true) (hf : ∀ j, j < cs.length → w.frozen? ⟨b, o + j, none⟩ = false) (h1 : ∀ v ∈ cs, v.oneCell' = true) :
    (Builtin.copy_ #[dT, sT] ty #[.slice (some ⟨b, o, none⟩) dLen dCap, .slice (some a) sLen sCap]).run P w = .ok (goInt (Nat.min sLen dLen)) (w.setCells b o cs) := by
  have hst := run_storeCells_cells (P := P) b o cs 0 w (by simpa using hc) (by simpa using hf) h1
  cases hq : P.info? elem with
  | none => simp [hq] at hs
  | some i =>
    have hi : i.size = k := by simpa [hq] using hs
    have hfc := run_firstCells_some (P := P) w k (Nat.min sLen dLen) a sLen sCap cs hn hsrc
    simp [Builtin.copy_, run_underlying hu, Builtin.lenOf, sizeOf, typeInfo, hq, hi, hfc, hst]

theorem setCells_rowF {w : World} {g n o : Nat} {t : TypeId} {F : Nat → Value} (vs : List Value) (h : w.rowIs g t n F) : (w.setCells g o vs).rowIs g t n (fun j => if o ≤ j ∧ j < o + vs.length then vs.getD (j - o) undef else F j) ∧ Chg (fun k => k = g) w (w.setCells g o vs) := by
  induction vs generalizing w o F with
  | nil => exact ⟨h.congr (fun i _ => by rw [if_neg (by simp <;> omega)]), Chg.refl _ _⟩
  | cons v r ih =>
    obtain ⟨h1, h2⟩ := ih (o := o + 1) (h.set o v)
    refine ⟨h1.congr (fun j _ => ?_), ((Chg.refl (fun k => k = g) w).set (p := ⟨g, o, none⟩) (.inl rfl) v).trans h2⟩
    simp only [List.length_cons]
    by_cases e : j = o
    · subst e
      rw [if_neg (by omega), if_pos rfl, if_pos (by omega), Nat.sub_self]; rfl
    · by_cases e2 : o + 1 ≤ j ∧ j < o + 1 + r.length
      · rw [if_pos e2, if_pos (by omega)]
        have : j - o = (j - (o + 1)) + 1 := by omega
        rw [this]; rfl
      · rw [if_neg e2, if_neg e, if_neg (by omega)]

theorem ops_row {B : Nat} {w : World} {os : List Op4} {g cap : Nat} (h : OwnOps B w (.slice (some ⟨g, 0, none⟩) os.length cap) os) : B ≤ g ∧ os.length ≤ cap ∧ cap ≤ 9223372036854775807 ∧ ∃ F, w.rowIs g 37 (cap * 4) F ∧ ∀ t, t < os.length * 4 → (opCells os)[t]? = some (F t) := by
  rcases h.2 with ⟨h1, _⟩ | ⟨g', cap', cur, hv, hB, hb, hn, hc, hs, ht⟩
  · cases h1
  · simp only [Value.slice.injEq, Option.some.injEq, Addr.mk.injEq] at hv
    obtain ⟨⟨rfl, _⟩, _, rfl⟩ := hv
    refine ⟨hB, hn, hc, fun t => cur[t]?.getD undef, ⟨cur, hb, hs, fun i hi => getD_some cur (by omega)⟩, fun t htl => ?_⟩
    rw [← ht, List.getElem?_take_of_lt htl, Array.getElem?_toList]
    exact getD_some cur (by omega)
theorem ops_of_row {B : Nat} {w : World} {g cap n : Nat} {F : Nat → Value} {ys : List Op4} (h : w.rowIs g 37 (cap * 4) F) (hB : B ≤ g) (hc : cap ≤ 9223372036854775807) (hl : ys.length = n) (hn : n ≤ cap) (hF : ∀ t, t < n * 4 → (opCells ys)[t]? = some (F t)) : OwnOps B w (.slice (some ⟨g, 0, none⟩) n cap) ys := by
  subst hl
  obtain ⟨c, hb, hs, hcc⟩ := h
  refine ⟨opCells_length ys, .inr ⟨g, cap, c, rfl, hB, hb, hn, hc, hs, ?_⟩⟩
  apply List.ext_getElem?
  intro j
  rcases Nat.lt_or_ge j (ys.length * 4) with hj | hj
  · rw [List.getElem?_take_of_lt hj, Array.getElem?_toList, hcc j (by omega), hF j hj]
  · rw [List.getElem?_eq_none (by rw [List.length_take]; omega), List.getElem?_eq_none (by rw [opCells_length]; omega)]

theorem opCells_cons (o : Op4) (os : List Op4) : opCells (o :: os) = o.cells ++ opCells os := rfl
theorem cells_len (o : Op4) : o.cells.length = 4 := rfl
theorem getD_getElem {l : List Value} {j : Nat} (h : j < l.length) : l[j]? = some (l.getD j undef) := by
  rw [List.getElem?_eq_getElem h, List.getD_eq_getElem?_getD, List.getElem?_eq_getElem h]; rfl
theorem hsz37 : (Try.prog.info? 37).map (·.size) = some 4 := by
  obtain ⟨i0, hi, _, hz1, _⟩ := info_parts Try.info37
  rw [hi]; simp [hz1]

theorem cons_at (o : Op4) (os : List Op4) (t : Nat) (ht : t < (os.length + 1) * 4) : (opCells (o :: os))[t]? = some (if t < 4 then o.cells.getD t undef else (opCells os).getD (t - 4) undef) := by
  rw [opCells_cons]
  have hl := opCells_length os
  by_cases h : t < 4
  · rw [if_pos h, List.getElem?_append_left (by rw [cells_len]; exact h), getD_getElem (by rw [cells_len]; exact h)]
  · rw [if_neg h, List.getElem?_append_right (by rw [cells_len]; omega), cells_len, getD_getElem (by omega)]

/-- There is room: the operations move up in place, the new one is laid ahead. -/
theorem insert_room {B : Nat} {w : World} {g cap bl : Nat} {os : List Op4} {o : Op4} (h : OwnOps B w (.slice (some ⟨g, 0, none⟩) os.length cap) os) (hbl : w.heap[bl]? = some (.cells (opCells [o]).toArray 37 (0, 0))) (hne : bl ≠ g) (hroom : os.length + 1 ≤ cap) :
    ∃ W1, (∀ ty dc sc, (Builtin.copy_ #[22, 22] ty #[.slice (some ⟨g, 4, none⟩) os.length dc, .slice (some ⟨g, 0, none⟩) (os.length + 1) sc]).run Try.prog w.drew = .ok (.int .i64 (os.length : Int)) W1) ∧
    ∃ W2, (∀ ty dc, (Builtin.copy_ #[22, 22] ty #[.slice (some ⟨g, 0, none⟩) (os.length + 1) dc, .slice (some ⟨bl, 0, none⟩) 1 1]).run Try.prog W1 = .ok (.int .i64 1) W2) ∧
      OwnOps B W2 (.slice (some ⟨g, 0, none⟩) (os.length + 1) cap) (o :: os) ∧ Chg (fun k => k = g) w W2 := by
  obtain ⟨hB, hnc, hcm, F, hF, hx⟩ := ops_row h
  have hlo := opCells_length os
  obtain ⟨r1, k1⟩ := setCells_rowF (o := 4) (opCells os) hF.drew
  obtain ⟨r2, k2⟩ := setCells_rowF (o := 0) o.cells r1
  have hb1 : (w.drew.setCells g 4 (opCells os)).heap[bl]? = some (.cells (opCells [o]).toArray 37 (0, 0)) := (k1.block bl (by
    rcases Nat.lt_or_ge bl w.heap.size with hlt | hge
    · exact hlt
    · rw [Array.getElem?_eq_none hge] at hbl; cases hbl) hne).trans hbl
  refine ⟨w.drew.setCells g 4 (opCells os), fun ty dc sc => ?_, (w.drew.setCells g 4 (opCells os)).setCells g 0 o.cells, fun ty dc => ?_, ?_, ?_⟩
  · have := run_copy_k (P := Try.prog) w.drew 22 22 ty 37 g 4 os.length dc ⟨g, 0, none⟩ (os.length + 1) sc 4 (opCells os) Try.underlying22 hsz37 (by rw [hlo]; simp only [Nat.min_def]; split <;> omega)
      (fun j v hj => by
        have hjl : j < (opCells os).length := by
          rcases Nat.lt_or_ge j (opCells os).length with h | h
          · exact h
          · rw [List.getElem?_eq_none h] at hj; cases hj
        have hadd : (⟨g, 0, none⟩ : Addr).add j = ⟨g, j, none⟩ := by unfold Addr.add; split <;> simp_all
        rw [hadd, World.cell?_drew, hF.cell (by omega), ← hx j (by omega)]; exact hj)
      (fun j hj => by rw [World.cell?_drew, hF.cell (by omega)]; rfl) (fun j hj => hF.frozen _) (opCells_one os)
    rw [this, show Nat.min (os.length + 1) os.length = os.length from Nat.min_eq_right (by omega)]; rfl
  · have := run_copy_k (P := Try.prog) (w.drew.setCells g 4 (opCells os)) 22 22 ty 37 g 0 (os.length + 1) dc ⟨bl, 0, none⟩ 1 1 4 o.cells Try.underlying22 hsz37 (by rw [cells_len]; simp only [Nat.min_def]; split <;> omega)
      (fun j v hj => by have := World.news_of_block hb1 j v; simp only [opCells, List.flatMap_cons, List.flatMap_nil, List.append_nil] at this; exact this (by simpa using hj))
      (fun j hj => by rw [cells_len] at hj; rw [Nat.zero_add, r1.cell (by omega)]; rfl) (fun j hj => r1.frozen _) (by have := opCells_one [o]; simpa [opCells] using this)
    rw [this, show Nat.min 1 (os.length + 1) = 1 from Nat.min_eq_left (by omega)]; rfl
  · refine ops_of_row r2 hB hcm rfl hroom (fun t ht => ?_)
    rw [cons_at o os t ht]
    have hcl := cells_len o
    by_cases e : t < 4
    · rw [if_pos e, if_pos (show 0 ≤ t ∧ t < 0 + o.cells.length by omega), Nat.sub_zero]
    · rw [if_neg e, if_neg (show ¬ (0 ≤ t ∧ t < 0 + o.cells.length) by omega), if_pos (show 4 ≤ t ∧ t < 4 + (opCells os).length by omega)]
  · exact ((Chg.refl _ w).drew).trans (k1.trans k2)

/-- There is no room: a new row; the new operation ahead, the others behind it. -/
theorem insert_grow {B : Nat} {w : World} {g cap bl : Nat} {os : List Op4} {o : Op4} (h : OwnOps B w (.slice (some ⟨g, 0, none⟩) os.length cap) os) (hbl : w.heap[bl]? = some (.cells (opCells [o]).toArray 37 (0, 0))) (hB0 : B ≤ w.heap.size) (h0 : 0 < os.length) (hroom : cap < os.length + 1) (hn : (os.length + 1) * 32 ≤ 140737488355328) :
    ∃ G W0, (∀ ty, (Builtin.append_ #[22, 3] ty #[.slice (some ⟨g, 0, none⟩) 0 cap, .int .i64 ((os.length : Int) + 1)]).run Try.prog w = .ok (.slice (some ⟨w.heap.size, 0, none⟩) (os.length + 1) G) W0) ∧ os.length + 1 ≤ G ∧ G ≤ 9223372036854775807 ∧
    ∃ W1, (∀ ty dc, (Builtin.copy_ #[22, 22] ty #[.slice (some ⟨w.heap.size, 0, none⟩) (os.length + 1) dc, .slice (some ⟨bl, 0, none⟩) 1 1]).run Try.prog W0 = .ok (.int .i64 1) W1) ∧
    ∃ W2, (∀ ty dc sc, (Builtin.copy_ #[22, 22] ty #[.slice (some ⟨w.heap.size, 4, none⟩) os.length dc, .slice (some ⟨g, 0, none⟩) os.length sc]).run Try.prog W1.drew = .ok (.int .i64 (os.length : Int)) W2) ∧
      OwnOps B W2 (.slice (some ⟨w.heap.size, 0, none⟩) (os.length + 1) G) (o :: os) ∧ Below w.heap.size w W2 := by
  obtain ⟨hB, hnc, hcm, F, hF, hx⟩ := ops_row h
  have hlo := opCells_length os
  obtain ⟨i0, hi, hz0, hz1, hz2⟩ := info_parts Try.info37
  obtain ⟨G, hG⟩ : ∃ G, G = grownCap w (os.length + 1) cap 37 := ⟨_, rfl⟩
  have hGn : os.length + 1 ≤ G := by rw [hG]; exact grownCap_ge w _ _ _
  have hGm : G ≤ 9223372036854775807 := by
    have := grownCap_le_maxLen w (os.length + 1) cap 37 (by unfold maxLen; omega)
    rw [← hG] at this; exact this
  have hrz := fun ty => Lib.run_append_grow_zeros w 22 3 ty 37 i0 (.agg #[.int .i64 0, .int .i64 0, .int .u64 0, .int .u64 0]) .i64 .i64 Try.underlying22 Try.underlying3 hi hz0 (some ⟨g, 0, none⟩) 0 cap [] (by
    rw [hz1]; exact run_firstCells_some w.drew 4 0 ⟨g, 0, none⟩ 0 cap [] rfl (fun j v hj => by cases hj)) (os.length + 1) (by omega) (by omega) (by omega) (by omega) (by rw [hz2]; omega) (by rw [hz2, Nat.zero_add]; exact growslice_fits (by omega) hn)
  simp only [Nat.zero_add, ← hG] at hrz
  obtain ⟨R, hR⟩ : ∃ R : Array Value, R = [].toArray ++ Builtin.zeroCells (Value.agg #[.int .i64 0, .int .i64 0, .int .u64 0, .int .u64 0]).cells (os.length + 1) ++ Builtin.zeroCells (Value.agg #[.int .i64 0, .int .i64 0, .int .u64 0, .int .u64 0]).cells (G - (os.length + 1)) := ⟨_, rfl⟩
  rw [← hR] at hrz
  have hRs : R.size = G * 4 := by
    rw [hR]
    simp [Builtin.zeroCells, Value.cells]
    omega
  have hrow : (w.drew.alloc (.cells R 37)).rowIs w.heap.size 37 (G * 4) (fun j => R[j]?.getD undef) := by
    have := World.rowIs_alloc w.drew R 37 (fun j => R[j]?.getD undef) (fun i hi => getD_some R hi)
    rw [hRs] at this
    exact this
  have hb0 : Below w.heap.size w (w.drew.alloc (.cells R 37)) := by
    have : Below w.heap.size w (w.alloc (.cells R 37)) := (Below.refl _ _).alloc (Nat.le_refl _) _
    exact ⟨this.os, this.tape, this.output, this.size, this.block⟩
  obtain ⟨W0, hW0⟩ : ∃ W0, W0 = w.drew.alloc (.cells R 37) := ⟨_, rfl⟩
  rw [← hW0] at hrz hrow hb0
  obtain ⟨r1, k1⟩ := setCells_rowF (o := 0) o.cells hrow
  obtain ⟨r2, k2⟩ := setCells_rowF (o := 4) (opCells os) r1.drew
  have hlt : ∀ k, w.heap[k]? ≠ none → k < w.heap.size := fun k hk => by
    rcases Nat.lt_or_ge k w.heap.size with hlt | hge
    · exact hlt
    · exact absurd (Array.getElem?_eq_none hge) hk
  have hbll : bl < w.heap.size := hlt bl (by rw [hbl]; simp)
  have hgl := hF.lt
  have hb1 : W0.heap[bl]? = some (.cells (opCells [o]).toArray 37 (0, 0)) := (hb0.block bl hbll).trans hbl
  have hb01 : Below w.heap.size w (W0.setCells w.heap.size 0 o.cells) := hb0.trans (k1.below hb0.size (fun k e => by omega))
  have hFg : (W0.setCells w.heap.size 0 o.cells).drew.rowIs g 37 (cap * 4) F := (hF.of_block (hb01.block g hgl)).drew
  refine ⟨G, W0, fun ty => hrz ty, hGn, hGm, W0.setCells w.heap.size 0 o.cells, fun ty dc => ?_, (W0.setCells w.heap.size 0 o.cells).drew.setCells w.heap.size 4 (opCells os), fun ty dc sc => ?_, ?_, ?_⟩
  · have := run_copy_k (P := Try.prog) W0 22 22 ty 37 w.heap.size 0 (os.length + 1) dc ⟨bl, 0, none⟩ 1 1 4 o.cells Try.underlying22 hsz37 (by rw [cells_len]; simp only [Nat.min_def]; split <;> omega)
      (fun j v hj => by have := World.news_of_block hb1 j v; simp only [opCells, List.flatMap_cons, List.flatMap_nil, List.append_nil] at this; exact this (by simpa using hj))
      (fun j hj => by rw [cells_len] at hj; rw [Nat.zero_add, hrow.cell (by omega)]; rfl) (fun j hj => hrow.frozen _) (by have := opCells_one [o]; simpa [opCells] using this)
    rw [this, show Nat.min 1 (os.length + 1) = 1 from Nat.min_eq_left (by omega)]; rfl
  · have := run_copy_k (P := Try.prog) (W0.setCells w.heap.size 0 o.cells).drew 22 22 ty 37 w.heap.size 4 os.length dc ⟨g, 0, none⟩ os.length sc 4 (opCells os) Try.underlying22 hsz37 (by rw [hlo]; simp only [Nat.min_def]; split <;> omega)
      (fun j v hj => by
        have hjl : j < (opCells os).length := by
          rcases Nat.lt_or_ge j (opCells os).length with h | h
          · exact h
          · rw [List.getElem?_eq_none h] at hj; cases hj
        have hadd : (⟨g, 0, none⟩ : Addr).add j = ⟨g, j, none⟩ := by unfold Addr.add; split <;> simp_all
        rw [hadd, hFg.cell (by omega), ← hx j (by omega)]; exact hj)
      (fun j hj => by rw [r1.drew.cell (by omega)]; rfl) (fun j hj => r1.drew.frozen _) (opCells_one os)
    rw [this, show Nat.min os.length os.length = os.length from Nat.min_eq_left (by omega)]; rfl
  · refine ops_of_row r2 (by omega) hGm rfl hGn (fun t ht => ?_)
    rw [cons_at o os t ht]
    have hcl := cells_len o
    by_cases e : t < 4
    · rw [if_pos e, if_neg (show ¬ (4 ≤ t ∧ t < 4 + (opCells os).length) by omega), if_pos (show 0 ≤ t ∧ t < 0 + o.cells.length by omega), Nat.sub_zero]
    · rw [if_neg e, if_pos (show 4 ≤ t ∧ t < 4 + (opCells os).length by omega)]
  · have hbd : Below w.heap.size w (W0.setCells w.heap.size 0 o.cells).drew := ⟨hb01.os, hb01.tape, hb01.output, hb01.size, hb01.block⟩
    exact hbd.trans (k2.below hbd.size (fun k e => by omega))

theorem overlaps_no {w : World} {g bl cap : Nat} {F : Nat → Value} {o : Op4} (hF : w.rowIs g 37 (cap * 4) F) (hc : 0 < cap) (hbl : w.heap[bl]? = some (.cells (opCells [o]).toArray 37 (0, 0))) (hne : bl ≠ g) (off lb cb : Nat) :
    (callFunc 32 #[.slice (some ⟨bl, 0, none⟩) 1 1, .slice (some ⟨g, off, none⟩) lb cb]).run Try.prog w = .ok (.value (.bool false)) w := by
  obtain ⟨c, hb, hs, _⟩ := hF
  rw [run_callFunc_extern Try.func32 (by kernel_rfl) (by kernel_rfl) (by kernel_rfl) (e := Extern.SlicesOverlaps.overlaps #[22, 22] #[4]) (by kernel_rfl),
    Lib.run_overlaps_apart w 22 4 37 Try.underlying22 4 (fun w => by kernel_rfl) ⟨bl, 0, none⟩ ⟨g, off, none⟩ 1 1 lb cb hne 37 37 4 (cap * 4)
      (by unfold World.shape?; rw [hbl]; rfl) (by unfold World.shape?; rw [hb]; simp [hs]) (by omega) (by unfold World.frozen?; rw [hbl]; rfl) (by unfold World.frozen?; rw [hbl]; rfl)]
  rfl

end Go.Proofs.Ytbckppflfgdblaa
