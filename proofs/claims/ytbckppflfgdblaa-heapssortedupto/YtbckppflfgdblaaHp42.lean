/- HeapsOrder's parts: pushes in one order and in the other; a slice that grows at its end and one that grows at its head. -/
import Derived.Test.YtbckppflfgdblaaHp41
import Derived.Test.YtbckppflfgdblaaHpUpd
namespace Go.Proofs.Ytbckppflfgdblaa
open Go.RowKit Go.Maps

/-! ### pushes -/
structure Pushes (s : Qst) (ps : List Op4) : Prop where
  kind : ∀ o ∈ ps, o.kind = 1
  new : ∀ o ∈ ps, s.M o.id = none
  apart : ps.Pairwise (fun a b => a.id ≠ b.id)
theorem push_run {s : Qst} {ps : List Op4} (h : Pushes s ps) : (run s ps).2.2.n = s.n + ps.length ∧ ∀ y k, (run s ps).2.2.M y = some k ↔ (∃ o ∈ ps, o.id = y ∧ (o.hi, o.lo) = k) ∨ s.M y = some k := by
  induction ps generalizing s with
  | nil => simp [run]
  | cons o ps ih =>
    have hk := h.kind o (by simp)
    have hM := h.new o (by simp)
    have hs : step s o = (0, [], ⟨s.n + 1, updM s.M o.id (o.hi, o.lo)⟩) := by simp [step, hk, hM]
    have hap := List.pairwise_cons.1 h.apart
    have hp : Pushes ⟨s.n + 1, updM s.M o.id (o.hi, o.lo)⟩ ps := ⟨fun x hx => h.kind x (by simp [hx]), fun x hx => by
      simp only [updM]
      rw [if_neg (fun e => hap.1 x hx e.symm)]
      exact h.new x (by simp [hx]), hap.2⟩
    obtain ⟨h1, h2⟩ := ih hp
    simp only [run, hs]
    refine ⟨by rw [h1, List.length_cons]; simp only; omega, fun y k => ?_⟩
    rw [h2]
    simp only [updM, List.mem_cons, exists_eq_or_imp]
    by_cases e : y = o.id
    · subst e
      rw [if_pos rfl]
      constructor
      · rintro (hx | hx)
        · exact .inl (.inr hx)
        · exact .inl (.inl ⟨rfl, by simpa using hx⟩)
      · rintro ((⟨_, hx⟩ | hx) | hx)
        · exact .inr (by rw [hx])
        · exact .inl hx
        · rw [hM] at hx; cases hx
    · rw [if_neg e]
      constructor
      · rintro (hx | hx)
        · exact .inl (.inr hx)
        · exact .inr hx
      · rintro ((⟨hx, _⟩ | hx) | hx)
        · exact absurd hx.symm e
        · exact .inl hx
        · exact .inr hx
theorem Pushes.reverse {s : Qst} {ps : List Op4} (h : Pushes s ps) : Pushes s ps.reverse :=
  ⟨fun o ho => h.kind o (by simpa using ho), fun o ho => h.new o (by simpa using ho), by rw [List.pairwise_reverse]; exact h.apart.imp (fun hne e => hne e.symm)⟩
theorem push_order {s : Qst} {ps : List Op4} (h : Pushes s ps) : (run s ps.reverse).2.2 = (run s ps).2.2 := by
  obtain ⟨h1, h2⟩ := push_run h
  obtain ⟨k1, k2⟩ := push_run h.reverse
  have e1 : (run s ps.reverse).2.2.n = (run s ps).2.2.n := by rw [h1, k1, List.length_reverse]
  have e2 : (run s ps.reverse).2.2.M = (run s ps).2.2.M := by
    funext y
    apply Option.ext
    intro k
    rw [h2, k2]
    simp
  cases hA : (run s ps.reverse).2.2 with
  | mk n M =>
    cases hB : (run s ps).2.2 with
    | mk n' M' =>
      rw [hA, hB] at e1 e2
      simp only at e1 e2
      rw [e1, e2]

/-- The pushes of keys, by their places. -/
def pushOp (ks : List (Int × Int)) (j : Nat) : Op4 := ⟨1, (j : Int), (ks.getD j (0, 0)).1, (ks.getD j (0, 0)).2⟩
def pushOps (ks : List (Int × Int)) (n : Nat) : List Op4 := (List.range n).map (pushOp ks)
theorem pushOps_succ (ks : List (Int × Int)) (n : Nat) : pushOps ks (n + 1) = pushOps ks n ++ [pushOp ks n] := by simp [pushOps, List.range_succ]
theorem pushOps_length (ks : List (Int × Int)) (n : Nat) : (pushOps ks n).length = n := by simp [pushOps]
theorem pushOps_pushes (ks : List (Int × Int)) (n : Nat) : Pushes q0 (pushOps ks n) := by
  refine ⟨fun o ho => ?_, fun o ho => rfl, ?_⟩
  · obtain ⟨j, _, rfl⟩ := List.mem_map.1 ho; rfl
  · unfold pushOps
    rw [List.pairwise_map]
    refine List.Pairwise.imp ?_ List.pairwise_lt_range
    intro a b hab e
    simp only [pushOp] at e
    omega
theorem pushOps_ids (ks : List (Int × Int)) {n : Nat} (hn : n ≤ 5000000000000) : ∀ o ∈ pushOps ks n, I64 o.id := by
  intro o ho
  obtain ⟨j, hj, rfl⟩ := List.mem_map.1 ho
  have := List.mem_range.1 hj
  exact I64.of (by simp only [pushOp]; omega) (by simp only [pushOp]; omega)

/-! ### the two slices -/
/-- a holds the pushes so far, b the same from behind; B: all that the call has made lies from there on. -/
structure AB (w : World) (ks : List (Int × Int)) (i : Nat) (a b : Value) (W : World) : Prop where
  own1 : OwnOps w.heap.size W a (pushOps ks i)
  own2 : OwnOps w.heap.size W b (pushOps ks i).reverse
  apart : ∀ g, a.ownBlock = some g → b.ownBlock ≠ some g
  nil : i = 0 → b = .slice none 0 0
  below : Below w.heap.size w W
theorem AB.next {w : World} {ks : List (Int × Int)} {i : Nat} {a b : Value} {W W' : World} (h : AB w ks i a b W) (hb : Below W.heap.size W W') : AB w ks i a b W' :=
  ⟨h.own1.below hb, h.own2.below hb, h.apart, h.nil, h.below.trans (hb.mono h.below.size)⟩

theorem OwnOps.chg {B : Nat} {w w' : World} {v : Value} {os : List Op4} {S : Nat → Prop} (h : OwnOps B w v os) (hc : Chg S w w') (hs : ∀ k, v.ownBlock = some k → ¬ S k) : OwnOps B w' v os := by
  refine ⟨h.1, ?_⟩
  rcases h.2 with hn | ⟨g, cap, cur, rfl, hB, hgg, rest⟩
  · exact .inl hn
  · exact .inr ⟨g, cap, cur, rfl, hB, (hc.block g (World.ownsRow.lt h g rfl).2 (hs g rfl)).trans hgg, rest⟩

/-- Half of a round: a has grown, b not yet (A: that half; or b has grown, a not yet). -/
structure Half1 (w : World) (ks : List (Int × Int)) (i : Nat) (a b : Value) (W : World) : Prop where
  own1 : OwnOps w.heap.size W a (pushOps ks (i + 1))
  own2 : OwnOps w.heap.size W b (pushOps ks i).reverse
  apart : ∀ g, a.ownBlock = some g → b.ownBlock ≠ some g
  nil : i = 0 → b = .slice none 0 0
  below : Below w.heap.size w W
structure Half2 (w : World) (ks : List (Int × Int)) (i : Nat) (a b : Value) (W : World) : Prop where
  own1 : OwnOps w.heap.size W a (pushOps ks i)
  own2 : OwnOps w.heap.size W b (pushOps ks (i + 1)).reverse
  apart : ∀ g, a.ownBlock = some g → b.ownBlock ≠ some g
  below : Below w.heap.size w W

theorem block_lt {w : World} {k : Nat} {o : Obj} (h : w.heap[k]? = some o) : k < w.heap.size := by
  rcases Nat.lt_or_ge k w.heap.size with hlt | hge
  · exact hlt
  · rw [Array.getElem?_eq_none hge] at h; cases h

/-- The append, in whatever world. -/
theorem app_ops {W : World} {B bl : Nat} {v : Value} {os : List Op4} {o : Op4} (h : OwnOps B W v os) (hB : B ≤ W.heap.size) (hn : (os.length + 1) * 32 ≤ 140737488355328) (hbl : W.heap[bl]? = some (.cells (opCells [o]).toArray 37 (0, 0))) :
    ∃ g cap W2, (Builtin.append_ #[22, 22] 22 #[v, .slice (some ⟨bl, 0, none⟩) 1 1]).run Try.prog W = .ok (.slice (some ⟨g, 0, none⟩) (os.length + 1) cap) W2 ∧ OwnOps B W2 (.slice (some ⟨g, 0, none⟩) (os.length + 1) cap) (os ++ [o]) ∧ Chg (fun k => v.ownBlock = some k) W W2 ∧ (v.ownBlock = some g ∨ g = W.heap.size) := by
  obtain ⟨i0, hi, hz0, hz1, hz2⟩ := info_parts Try.info37
  obtain ⟨g, cap', W2, hr, h2, h3, h4, _⟩ := run_append_lies (P := Try.prog) W 22 22 B 37 i0 _ 4 32 Try.underlying22 hi hz0 hz1 hz2 rfl (by decide) v os.length (opCells os) h
    ⟨bl, 0, none⟩ 1 1 (opCells [o]) rfl (by have := World.news_of_block hbl; simpa using this) (opCells_one [o]) (by decide) (by simp only [maxLen]; omega) hn hB _ rfl
  refine ⟨g, cap', W2, hr, ?_, Chg.of_grown h3 (fun k e => e), h4⟩
  unfold OwnOps
  rw [List.length_append, opCells_append]
  exact h2

theorem half1 {w W : World} {ks : List (Int × Int)} {i bl : Nat} {a b : Value} (h : AB w ks i a b W) (hn : i + 1 ≤ 2000000) (hbl : W.heap[bl]? = some (.cells (opCells [pushOp ks i]).toArray 37 (0, 0))) :
    ∃ g cap W2, (Builtin.append_ #[22, 22] 22 #[a, .slice (some ⟨bl, 0, none⟩) 1 1]).run Try.prog W = .ok (.slice (some ⟨g, 0, none⟩) (i + 1) cap) W2 ∧ Half1 w ks i (.slice (some ⟨g, 0, none⟩) (i + 1) cap) b W2 ∧ Chg (fun k => a.ownBlock = some k) W W2 := by
  have hl := pushOps_length ks i
  obtain ⟨g, cap, W2, hr, h1, h2, h3⟩ := app_ops h.own1 h.below.size (by omega) hbl
  rw [hl] at hr h1
  refine ⟨g, cap, W2, hr, ⟨by rw [pushOps_succ]; exact h1, h.own2.chg h2 (fun k hk e => h.apart k e hk), fun k hk e => ?_, h.nil, h.below.trans (h2.below h.below.size (fun k hk => (World.ownsRow.lt h.own1 k hk).1))⟩, h2⟩
  simp only [Value.ownBlock, Option.some.injEq] at hk
  subst hk
  rcases h3 with h3 | h3
  · exact h.apart _ h3 e
  · have := (World.ownsRow.lt h.own2 _ e).2; omega

/-- The insertion, in whatever world. -/
theorem ins_ops {W : World} {B bl : Nat} {v : Value} {os : List Op4} {o : Op4} (h : OwnOps B W v os) (hnil : os = [] → v = .slice none 0 0) (hB : B ≤ W.heap.size) (hn : (os.length + 1) * 32 ≤ 140737488355328) (hbl : W.heap[bl]? = some (.cells (opCells [o]).toArray 37 (0, 0))) (hne : v.ownBlock ≠ some bl) :
    Calls Try.prog 22 #[v, .int .i64 0, .slice (some ⟨bl, 0, none⟩) 1 1] W (Inserted B v o os W) := by
  cases os with
  | nil => rw [hnil rfl]; exact insert_nil hB hbl
  | cons p os =>
    rcases h.2 with ⟨_, h0⟩ | ⟨g, cap, cur, rfl, _⟩
    · simp at h0
    · exact insert_some h hB hbl (fun e => hne (by rw [e]; rfl)) (by simp) hn

end Go.Proofs.Ytbckppflfgdblaa
