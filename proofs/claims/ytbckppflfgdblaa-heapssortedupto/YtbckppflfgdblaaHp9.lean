/- (*queue).remove removes an Id, (*queue).update changes its key, or they tell that it is not present. -/
import Derived.Test.YtbckppflfgdblaaHp8
namespace Go.Proofs.Ytbckppflfgdblaa
open Go.RowKit Go.Maps

theorem rep_size {f : Nat → It} {n : Nat} {M : Held} (hr : Rep f n M) {x : Int} (h : (M x).isSome = true) : 0 < n := by
  cases hM : M x with
  | none => rw [hM] at h; cases h
  | some k => obtain ⟨j, hj, _⟩ := hr.all x k hM; omega
theorem QT.size {B q m n : Nat} {P : Value} {M : Held} {w : World} (h : QT B q m P n M w) {x : Int} (hx : (M x).isSome = true) : 0 < n := by
  obtain ⟨f, _, _, hr⟩ := h; exact rep_size hr hx

set_option maxHeartbeats 1000000 in
theorem remove_none {B : Nat} {w : World} {q m n : Nat} {P : Value} {M : Held} (h : QT B q m P n M w) {x : Int} (hx : I64 x) (hM : (M x).isSome = false) :
    Calls Try.prog 36 #[.pointer (some ⟨q, 0, none⟩), .int .i64 x] w fun e w' => e = .returned (.int .i64 3) ∧ Below w.heap.size w w' := by
  obtain ⟨f, hQ, hh, hr⟩ := h
  have hc1 := hQ.c1
  obtain ⟨p, hp, hpo⟩ := hQ.place
  obtain ⟨v, hl, _⟩ := hp.look hx
  rw [rep_some hr hpo, hM] at hl
  clear hQ hh hr hp hpo
  go_enter Try.func36, Try.ntmps36
  go_wp2
  go_ret
  exact ⟨rfl, Below.refl _ _⟩

def Removed (B q m : Nat) (P : Value) (n : Nat) (M : Held) (x : Int) (w : World) (e : Ending) (w' : World) : Prop :=
  e = .returned (.int .i64 0) ∧ QT B q m P n (delM M x) w' ∧ Fr T71 B q m w w'

theorem QT.at {B q m n : Nat} {P : Value} {M : Held} {w : World} (h : QT B q m P n M w) {x : Int} (hx : I64 x) (hM : (M x).isSome = true) :
    ∃ (k : Nat) (f : Nat → It) (g cap : Nat), k < n ∧ (f k).id = x ∧ B ≤ g ∧ QH w q g m cap n P f ∧ Heap f n ∧ Rep f n M ∧
      (Instr.lookup 52 (.map (some m)) (.int .i64 x) true).run Try.prog w = .ok (.tuple #[.int .i64 (k : Int), .bool true]) w := by
  obtain ⟨f, hQ, hh, hr⟩ := h
  have hn := rep_size hr hM
  rcases hQ with ⟨rfl, _⟩ | ⟨g, cap, hg, hQ⟩
  · omega
  · obtain ⟨p, hp, hpo⟩ := hQ.place
    obtain ⟨v, hl, hv⟩ := hp.look hx
    rw [rep_some hr hpo, hM] at hl
    cases hMx : M x with
    | none => rw [hMx] at hM; cases hM
    | some kk =>
      obtain ⟨k, hk, hkx⟩ := hr.all x kk hMx
      have := hpo.at hk
      rw [hkx] at this
      have e := hv _ this
      rw [← e] at hl
      exact ⟨k, f, g, cap, hk, hkx, hg, hQ, hh, hr, hl⟩

set_option maxHeartbeats 1000000 in
theorem remove_some {B : Nat} {w : World} {q m n : Nat} {P : Value} {M : Held} (h : QT B q m P (n + 1) M w) {x : Int} (hx : I64 x) (hM : (M x).isSome = true) :
    Calls Try.prog 36 #[.pointer (some ⟨q, 0, none⟩), .int .i64 x] w (Removed B q m P n M x w) := by
  obtain ⟨k, f, g, cap, hk, hkx, hg, hQ, hh, hr, hl⟩ := h.at hx hM
  have hc1 := hQ.c1
  have HT := Lib.hid (take_any hQ hh hr hk)
  rw [hkx] at HT
  have HX := Lib.hid (And.intro hg hQ)
  clear h hQ hh hr hkx hg
  go_enter Try.func36, Try.ntmps36
  go_wp2_with fail
  refine HT.out.mono ?_
  rintro e w1 ⟨rfl, f1, b1, b2, b3, b4⟩
  go_wp2
  go_ret
  exact ⟨rfl, ⟨f1, .inr ⟨g, cap, HX.out.1, b1⟩, b2, b3⟩, fr_of_qgm HX.out.2 HX.out.1 b4⟩

/-! ### update -/
set_option maxHeartbeats 1000000 in
theorem update_none {B : Nat} {w : World} {q m n : Nat} {P : Value} {M : Held} (h : QT B q m P n M w) {x hi lo : Int} (hx : I64 x) (hM : (M x).isSome = false) :
    Calls Try.prog 37 #[.pointer (some ⟨q, 0, none⟩), .int .i64 x, .agg #[.int .u64 hi, .int .u64 lo]] w fun e w' => e = .returned (.int .i64 3) ∧ Below w.heap.size w w' := by
  obtain ⟨f, hQ, hh, hr⟩ := h
  have hc1 := hQ.c1
  have hq := hQ.lt
  obtain ⟨p, hp, hpo⟩ := hQ.place
  obtain ⟨v, hl, _⟩ := (show MapIs (w.alloc (.cells #[.int .u64 hi, .int .u64 lo] 35)) m n p from hp.of_block (Below.heap_alloc w _ m hp.lt)).look hx
  rw [rep_some hr hpo, hM] at hl
  clear hQ hh hr hp hpo
  go_enter Try.func37, Try.ntmps37
  go_wp2
  go_ret
  exact ⟨rfl, (Below.refl _ _).alloc (Nat.le_refl _) _⟩

def Updated (B q m : Nat) (P : Value) (n : Nat) (M : Held) (x hi lo : Int) (w : World) (e : Ending) (w' : World) : Prop :=
  e = .returned (.int .i64 0) ∧ QT B q m P n (updM M x (hi, lo)) w' ∧ Fr T71 B q m w w'

def setKey (f : Nat → It) (k : Nat) (hi lo : Int) : Nat → It := fun j => if j = k then ⟨(f k).id, hi, lo⟩ else f j
theorem setKey_id (f : Nat → It) (k : Nat) (hi lo : Int) (j : Nat) : (setKey f k hi lo j).id = (f j).id := by unfold setKey; split; rename_i e; rw [e]; rfl
theorem Rep.setKey {f : Nat → It} {n : Nat} {M : Held} (h : Rep f n M) {k : Nat} (hk : k < n) (hi lo : Int) : Rep (setKey f k hi lo) n (updM M (f k).id (hi, lo)) := by
  refine ⟨fun j hj => ?_, fun x kk hx => ?_, fun i j hi' hj he => ?_⟩
  · rw [setKey_id]
    unfold updM
    by_cases e : j = k
    · subst e; rw [if_pos rfl]; unfold _root_.Go.Proofs.Ytbckppflfgdblaa.setKey; rw [if_pos rfl]; rfl
    · rw [if_neg (fun e2 => e (h.one j k hj hk e2))]; unfold _root_.Go.Proofs.Ytbckppflfgdblaa.setKey; rw [if_neg e]; exact h.held j hj
  · unfold updM at hx
    by_cases e : x = (f k).id
    · exact ⟨k, hk, by rw [setKey_id, e]⟩
    · rw [if_neg e] at hx
      obtain ⟨j, hj, e2⟩ := h.all x kk hx
      exact ⟨j, hj, by rw [setKey_id]; exact e2⟩
  · rw [setKey_id, setKey_id] at he; exact h.one i j hi' hj he

theorem update_mid {w : World} {q g m cap n : Nat} {P : Value} {f : Nat → It} (h : QH w q g m cap n P f) {k : Nat} {hi lo : Int} :
    QH ((w.setCell ⟨g, k * 3 + 1, none⟩ (.int .u64 hi)).setCell ⟨g, k * 3 + 2, none⟩ (.int .u64 lo)) q g m cap n P (setKey f k hi lo) ∧
    Chg (fun k => k = g) w ((w.setCell ⟨g, k * 3 + 1, none⟩ (.int .u64 hi)).setCell ⟨g, k * 3 + 2, none⟩ (.int .u64 lo)) := by
  have hc : Chg (fun k => k = g) w ((w.setCell ⟨g, k * 3 + 1, none⟩ (.int .u64 hi)).setCell ⟨g, k * 3 + 2, none⟩ (.int .u64 lo)) := ((Chg.refl (fun k => k = g) w).set (p := ⟨g, k * 3 + 1, none⟩) (.inl rfl) _).set (p := ⟨g, k * 3 + 2, none⟩) (.inl rfl) _
  obtain ⟨F, hF, hf⟩ := h.items
  obtain ⟨p, hp, hpo⟩ := h.place
  have hF2 := (hF.set (k * 3 + 1) (.int .u64 hi)).set (k * 3 + 2) (.int .u64 lo)
  refine ⟨⟨h.row.of_block (hc.block q h.row.lt h.qg), h.ncap, h.capm, h.nmax, ⟨_, hF2, fun j hj => ?_⟩, fun j hj => by rw [setKey_id]; exact h.ids j hj, ⟨p, hp.of_block (hc.block m hp.lt (fun e => h.gm e.symm)), fun x v => ?_⟩⟩, hc⟩
  · obtain ⟨a, b, c⟩ := hf j hj
    unfold setKey
    by_cases e : j = k
    · subst e
      rw [if_pos rfl]
      refine ⟨?_, ?_, ?_⟩
      · show (if _ then _ else if _ then _ else F _) = _; rw [if_neg (by omega), if_neg (by omega)]; exact a
      · show (if _ then _ else if _ then _ else F _) = _; rw [if_neg (by omega), if_pos rfl]
      · show (if _ then _ else if _ then _ else F _) = _; rw [if_pos rfl]
    · rw [if_neg e]
      refine ⟨?_, ?_, ?_⟩
      · show (if _ then _ else if _ then _ else F _) = _; rw [if_neg (by omega), if_neg (by omega)]; exact a
      · show (if _ then _ else if _ then _ else F _) = _; rw [if_neg (by omega), if_neg (by omega)]; exact b
      · show (if _ then _ else if _ then _ else F _) = _; rw [if_neg (by omega), if_neg (by omega)]; exact c
  · rw [hpo x v]
    simp only [setKey_id]

set_option maxHeartbeats 1000000 in
theorem update_some {B : Nat} {w : World} {q m n : Nat} {P : Value} {M : Held} (h : QT B q m P n M w) {x hi lo : Int} (hx : I64 x) (hM : (M x).isSome = true) :
    Calls Try.prog 37 #[.pointer (some ⟨q, 0, none⟩), .int .i64 x, .agg #[.int .u64 hi, .int .u64 lo]] w (Updated B q m P n M x hi lo w) := by
  have hb : Below w.heap.size w (w.alloc (.cells #[.int .u64 hi, .int .u64 lo] 35)) := (Below.refl _ _).alloc (Nat.le_refl _) _
  obtain ⟨k, f, g, cap, hk, hkx, hg, hQ, hh, hr, hl⟩ := (h.below hb).at hx hM
  obtain ⟨k', f', g', cap', hk', hkx', hg', hQ', _⟩ := h.at hx hM
  clear hk' hkx' hg' h
  have hq := hQ'.row.lt
  obtain ⟨W, hW⟩ : ∃ W, w.alloc (.cells #[.int .u64 hi, .int .u64 lo] 35) = W := ⟨_, rfl⟩
  have hw0 : W.cell? ⟨w.heap.size, 0, none⟩ = some (.int .u64 hi) := by rw [← hW]; exact cell_of_row _ _ _ _ _ _ (heap_alloc_new w _)
  have hw1 : W.cell? ⟨w.heap.size, 1, none⟩ = some (.int .u64 lo) := by rw [← hW]; exact cell_of_row _ _ _ _ _ _ (heap_alloc_new w _)
  rw [hW] at hl hQ hb
  have hc0 := hQ.c0
  have hc1 := hQ.c1
  obtain ⟨a0, a1, a2⟩ := hQ.it hk
  have z1 := hQ.gz (k * 3 + 1)
  have z2 := hQ.gz (k * 3 + 2)
  have i1 : (k : Int) < (n : Int) := by omega
  obtain ⟨u1, u2⟩ := update_mid (k := k) (hi := hi) (lo := lo) hQ
  replace u1 := u1.keep ((Chg.refl (fun _ => False) _).drew) id id id
  replace u2 := u2.drew
  have HS := Lib.hid (settle_any u1 hk (hh.hb k ⟨(f k).id, hi, lo⟩) (hr.setKey hk hi lo))
  rw [hkx] at HS
  have HX := Lib.hid (And.intro hg (And.intro hQ (And.intro hb (And.intro u1 u2))))
  clear hQ' hQ hh hr hkx hg hb u1 u2 hk
  go_enter Try.func37, Try.ntmps37
  go_wp2
  go_region
  go_wp2_with fail
  refine HS.out.mono ?_
  rintro e w1 ⟨rfl, f1, b1, b2, b3, b4⟩
  go_wp2
  go_ret
  exact ⟨rfl, ⟨f1, .inr ⟨g, cap, HX.out.1, b1⟩, b2, b3⟩, (Fr.of_below HX.out.2.2.1).trans ((fr_of_qgm HX.out.2.1 HX.out.1 (HX.out.2.2.2.2.mono (fun _ _ e => .inr (.inl e)))).trans (fr_of_qgm HX.out.2.2.2.1 HX.out.1 (b4.mono (fun _ _ e => .inr e))))⟩

end Go.Proofs.Ytbckppflfgdblaa
