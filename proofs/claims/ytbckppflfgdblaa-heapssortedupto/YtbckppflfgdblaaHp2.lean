/- (*queue).swap exchanges two items, and their places with them. -/
import Derived.Test.YtbckppflfgdblaaHp1
import Derived.Test.YtbckppflfgdblaaHp0m
namespace Go.Proofs.Ytbckppflfgdblaa
open Go.RowKit Go.Maps

def st3 (w : World) (g o : Nat) (x : It) : World := ((w.setCell ⟨g, o, none⟩ (.int .i64 x.id)).setCell ⟨g, o + 1, none⟩ (.int .u64 x.hi)).setCell ⟨g, o + 2, none⟩ (.int .u64 x.lo)
theorem st3_row {w : World} {g k o : Nat} {t : TypeId} {F : Nat → Value} (h : w.rowIs g t k F) (x : It) : (st3 w g o x).rowIs g t k (fun j => if j = o + 2 then .int .u64 x.lo else if j = o + 1 then .int .u64 x.hi else if j = o then .int .i64 x.id else F j) :=
  ((h.set o (.int .i64 x.id)).set (o + 1) (.int .u64 x.hi)).set (o + 2) (.int .u64 x.lo)
theorem st3_chg (w : World) (g o : Nat) (x : It) (S : Nat → Prop) (hs : S g) : Chg S w (st3 w g o x) :=
  (((Chg.refl S w).set (p := ⟨g, o, none⟩) (.inl hs) _).set (p := ⟨g, o + 1, none⟩) (.inl hs) _).set (p := ⟨g, o + 2, none⟩) (.inl hs) _
theorem ItAt.store {F : Nat → Value} {j k : Nat} {x y : It} (h : ItAt F j y) (hne : j ≠ k) : ItAt (fun l => if l = k * 3 + 2 then .int .u64 x.lo else if l = k * 3 + 1 then .int .u64 x.hi else if l = k * 3 then .int .i64 x.id else F l) j y := by
  obtain ⟨a, b, c⟩ := h
  refine ⟨?_, ?_, ?_⟩
  · show (if _ then _ else if _ then _ else if _ then _ else F _) = _
    rw [if_neg (by omega), if_neg (by omega), if_neg (by omega)]; exact a
  · show (if _ then _ else if _ then _ else if _ then _ else F _) = _
    rw [if_neg (by omega), if_neg (by omega), if_neg (by omega)]; exact b
  · show (if _ then _ else if _ then _ else if _ then _ else F _) = _
    rw [if_neg (by omega), if_neg (by omega), if_neg (by omega)]; exact c
theorem ItAt.stored (F : Nat → Value) (k : Nat) (x : It) : ItAt (fun l => if l = k * 3 + 2 then .int .u64 x.lo else if l = k * 3 + 1 then .int .u64 x.hi else if l = k * 3 then .int .i64 x.id else F l) k x := by
  refine ⟨?_, ?_, ?_⟩
  · show (if _ then _ else if _ then _ else if _ then _ else F _) = _
    rw [if_neg (by omega), if_neg (by omega), if_pos rfl]
  · show (if _ then _ else if _ then _ else if _ then _ else F _) = _
    rw [if_neg (by omega), if_pos rfl]
  · show (if _ then _ else if _ then _ else if _ then _ else F _) = _
    rw [if_pos rfl]
theorem items_swp {w : World} {g cap n : Nat} {f : Nat → It} (h : ∃ F, w.rowIs g 71 (cap * 3) F ∧ ∀ j, j < n → ItAt F j (f j)) {i j : Nat} :
    ∃ F, (st3 (st3 w g (i * 3) (f j)) g (j * 3) (f i)).rowIs g 71 (cap * 3) F ∧ ∀ k, k < n → ItAt F k (swp f i j k) := by
  obtain ⟨F, hF, hf⟩ := h
  refine ⟨_, st3_row (st3_row hF _) _, fun k hk => ?_⟩
  by_cases e2 : k = j
  · subst e2; rw [swp_r]; exact ItAt.stored _ _ _
  · refine ItAt.store ?_ e2
    by_cases e1 : k = i
    · subst e1; rw [swp_l]; exact ItAt.stored _ _ _
    · rw [swp_o f e1 e2]; exact (hf k hk).store e1

theorem mapI_run {w : World} {m n : Nat} {p : Places} (h : MapIs w m n p) (hn : n ≤ 5000000000000) {x : Int} {i : Nat} (hx : I64 x) (hi : i ≤ 5000000000000) (hp : (p x).isSome) :
    ∃ w', (Instr.mapUpdate 52 (.map (some m)) (.int .i64 x) (.int .i64 (i : Int))).run Try.prog w = .ok () w' ∧ MapIs w' m n (upd p x i) ∧ Chg (fun k => k = m) w w' := by
  obtain ⟨w', h1, h2, h3⟩ := h.store (x := x) (v := (i : Int)) hx (I64.of (by omega) (by omega)) (by unfold maxLen; omega) (n' := n) (by rw [hp]; rfl)
  exact ⟨w', h1, h2, chg_turned h3 rfl⟩

theorem swap_mid {w : World} {q g m cap n : Nat} {P : Value} {f : Nat → It} (h : QH w q g m cap n P f) {i j : Nat} (hi : i < n) (hj : j < n) {W1 : World} (hW : W1 = (st3 (st3 w g (i * 3) (f j)) g (j * 3) (f i)).drew) :
    (W1.cell? ⟨q, 0, none⟩ = some (.slice (some ⟨g, 0, none⟩) n cap) ∧ W1.cell? ⟨q, 1, none⟩ = some (.map (some m)) ∧ W1.cell? ⟨g, i * 3, none⟩ = some (.int .i64 (f j).id)) ∧
    ∃ W2, (Instr.mapUpdate 52 (.map (some m)) (.int .i64 (f j).id) (.int .i64 (i : Int))).run Try.prog W1.drew = .ok () W2 ∧
    (W2.cell? ⟨q, 0, none⟩ = some (.slice (some ⟨g, 0, none⟩) n cap) ∧ W2.cell? ⟨q, 1, none⟩ = some (.map (some m)) ∧ W2.cell? ⟨g, j * 3, none⟩ = some (.int .i64 (f i).id)) ∧
    ∃ W3, (Instr.mapUpdate 52 (.map (some m)) (.int .i64 (f i).id) (.int .i64 (j : Int))).run Try.prog W2.drew = .ok () W3 ∧
    QH W3 q g m cap n P (swp f i j) ∧ Chg (fun k => k = g ∨ k = m) w W3 := by
  subst hW
  obtain ⟨p, hp, hpo⟩ := h.place
  have hnc := h.ncap
  have hnm := h.nmax
  have hg : Chg (fun k => k = g) w (st3 (st3 w g (i * 3) (f j)) g (j * 3) (f i)).drew := ((st3_chg w g _ _ (fun k => k = g) rfl).trans (st3_chg _ g _ _ (fun k => k = g) rfl)).drew
  have hrow := h.row.of_block (hg.block q h.row.lt h.qg)
  have hmap : MapIs (st3 (st3 w g (i * 3) (f j)) g (j * 3) (f i)).drew m n p := hp.of_block (hg.block m hp.lt (fun e => h.gm e.symm))
  obtain ⟨F, hF, hf⟩ := items_swp (i := i) (j := j) h.items
  replace hF := hF.drew
  have c2 := hF.cell (i := i * 3) (by omega)
  have c3 := hF.cell (i := j * 3) (by omega)
  rw [(hf i hi).1, swp_l] at c2
  rw [(hf j hj).1, swp_r] at c3
  refine ⟨⟨hrow.cell (by omega), hrow.cell (by omega), c2⟩, ?_⟩
  generalize (st3 (st3 w g (i * 3) (f j)) g (j * 3) (f i)).drew = W1 at *
  obtain ⟨W2, r2, m2, k2⟩ := mapI_run (w := W1.drew) (hmap.of_block rfl) hnm (x := (f j).id) (i := i) (h.ids j hj) (by omega) (by rw [hpo.at hj]; rfl)
  replace k2 : Chg (fun k => k = m) W1 W2 := ⟨k2.os, k2.tape, k2.output, k2.size, k2.block⟩
  have hrow2 := hrow.of_block (k2.block q hrow.lt h.qm)
  have hF2 := hF.of_block (k2.block g hF.lt h.gm)
  have c4 := hF2.cell (i := j * 3) (by omega)
  rw [(hf j hj).1, swp_r] at c4
  refine ⟨W2, r2, ⟨hrow2.cell (by omega), hrow2.cell (by omega), c4⟩, ?_⟩
  obtain ⟨W3, r3, m3, k3⟩ := mapI_run (w := W2.drew) (m2.of_block rfl) hnm (x := (f i).id) (i := j) (h.ids i hi) (by omega) (by unfold upd; split; rfl; rw [hpo.at hi]; rfl)
  replace k3 : Chg (fun k => k = m) W2 W3 := ⟨k3.os, k3.tape, k3.output, k3.size, k3.block⟩
  have hrow3 := hrow2.of_block (k3.block q hrow2.lt h.qm)
  have hF3 := hF2.of_block (k3.block g hF2.lt h.gm)
  refine ⟨W3, r3, ⟨hrow3, hnc, h.capm, hnm, ⟨F, hF3, hf⟩, fun k hk => ?_, ⟨_, m3, hpo.swp hi hj⟩⟩, ?_⟩
  · obtain ⟨k', h1, h2, _⟩ := swp_at (f := f) hi hj k hk
    rw [h2]; exact h.ids k' h1
  · exact (hg.mono (fun _ _ e => .inl e)).trans ((k2.trans k3).mono (fun _ _ e => .inr e))

set_option maxHeartbeats 1000000 in
theorem swap_ne {w : World} {q g m cap n : Nat} {P : Value} {f : Nat → It} (h : QH w q g m cap n P f) {i j : Nat} (hi : i < n) (hj : j < n) (hij : i ≠ j) :
    Calls Try.prog 44 #[.pointer (some ⟨q, 0, none⟩), .int .i64 (i : Int), .int .i64 (j : Int)] w fun e w' => e = .returned (.tuple #[]) ∧ QH w' q g m cap n P (swp f i j) ∧ Chg (fun k => k = g ∨ k = m) w w' := by
  have hc0 := h.c0
  have hc1 := h.c1
  obtain ⟨a0, a1, a2⟩ := h.it hi
  obtain ⟨b0, b1, b2⟩ := h.it hj
  have z := h.gz
  have zi0 := z (i * 3)
  have zi1 := z (i * 3 + 1)
  have zi2 := z (i * 3 + 2)
  have zj0 := z (j * 3)
  have zj1 := z (j * 3 + 1)
  have zj2 := z (j * 3 + 2)
  clear z
  have i1 : (i : Int) < (n : Int) := by omega
  have j1 : (j : Int) < (n : Int) := by omega
  have e1 : i * 3 ≠ j * 3 := by omega
  have e2 : i * 3 ≠ j * 3 + 1 := by omega
  have e3 : i * 3 ≠ j * 3 + 2 := by omega
  have e4 : i * 3 + 1 ≠ j * 3 := by omega
  have e5 : i * 3 + 2 ≠ j * 3 := by omega
  have e6 : i * 3 + 1 ≠ j * 3 + 2 := by omega
  have e7 : i * 3 + 2 ≠ j * 3 + 1 := by omega
  go_enter Try.func44, Try.ntmps44
  go_wp2
  go_region
  go_wp2_with fail
  generalize hW : World.drew _ = W1
  obtain ⟨⟨d0, d1, d2⟩, W2, r2, ⟨d3, d4, d5⟩, W3, r3, hQ, hC⟩ := swap_mid h hi hj hW.symm
  have HQ := Lib.hid (And.intro hQ hC)
  clear hW h hc0 hc1 a0 a1 a2 b0 b1 b2 zi0 zi1 zi2 zj0 zj1 zj2 e1 e2 e3 e4 e5 e6 e7 hQ hC hij
  go_region
  go_wp2_with fail
  go_region
  go_wp2
  go_end0
  exact ⟨rfl, HQ.out⟩

set_option maxHeartbeats 1000000 in
theorem swap_eq {w : World} {q g m cap n : Nat} {P : Value} {f : Nat → It} (h : QH w q g m cap n P f) {i : Nat} (hi : i < n) :
    Calls Try.prog 44 #[.pointer (some ⟨q, 0, none⟩), .int .i64 (i : Int), .int .i64 (i : Int)] w fun e w' => e = .returned (.tuple #[]) ∧ QH w' q g m cap n P (swp f i i) ∧ Chg (fun k => k = g ∨ k = m) w w' := by
  have hc0 := h.c0
  have hc1 := h.c1
  obtain ⟨a0, a1, a2⟩ := h.it hi
  have z := h.gz
  have zi0 := z (i * 3)
  have zi1 := z (i * 3 + 1)
  have zi2 := z (i * 3 + 2)
  clear z
  have i1 : (i : Int) < (n : Int) := by omega
  go_enter Try.func44, Try.ntmps44
  go_wp2
  go_region
  go_wp2_with fail
  generalize hW : World.drew _ = W1
  obtain ⟨⟨d0, d1, d2⟩, W2, r2, ⟨d3, d4, d5⟩, W3, r3, hQ, hC⟩ := swap_mid h hi hi hW.symm
  have HQ := Lib.hid (And.intro hQ hC)
  clear hW h hc0 hc1 a0 a1 a2 zi0 zi1 zi2 hQ hC
  go_region
  go_wp2_with fail
  go_region
  go_wp2
  go_end0
  exact ⟨rfl, HQ.out⟩

theorem swap_any {w : World} {q g m cap n : Nat} {P : Value} {f : Nat → It} (h : QH w q g m cap n P f) {i j : Nat} (hi : i < n) (hj : j < n) :
    Calls Try.prog 44 #[.pointer (some ⟨q, 0, none⟩), .int .i64 (i : Int), .int .i64 (j : Int)] w fun e w' => e = .returned (.tuple #[]) ∧ QH w' q g m cap n P (swp f i j) ∧ Chg (fun k => k = g ∨ k = m) w w' := by
  by_cases e : i = j
  · subst e; exact swap_eq h hi
  · exact swap_ne h hi hj e

end Go.Proofs.Ytbckppflfgdblaa
