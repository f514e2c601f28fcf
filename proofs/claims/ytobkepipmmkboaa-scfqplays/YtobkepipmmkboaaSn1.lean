/- Pairs of a flow and its bytes (api.Sent) in memory: notions; append; two of them equal; slices.Equal. -/
import Derived.Test.YtobkepipmmkboaaIn2
import Derived.Deep.Upon
namespace Go.Proofs.Ytobkepipmmkboaa
open Go.RowKit Go.Maps

/-- Pairs lie in memory, one behind the other. -/
structure SentIn (w : World) (A : Option Addr) (gs : List (Nat × Int)) : Prop where
  at_ : 0 < gs.length → ∃ b off, A = some ⟨b, off, none⟩ ∧ b < w.heap.size ∧ ∀ j p, gs[j]? = some p → w.cell? ⟨b, off + j * 2, none⟩ = some (.int .i64 (p.1 : Int)) ∧ w.cell? ⟨b, off + j * 2 + 1, none⟩ = some (.int .i64 p.2)
theorem SentIn.below {w w' : World} {A : Option Addr} {gs : List (Nat × Int)} (h : SentIn w A gs) (hb : Below w.heap.size w w') : SentIn w' A gs := by
  refine ⟨fun h0 => ?_⟩
  obtain ⟨b, off, e, hl, hc⟩ := h.at_ h0
  exact ⟨b, off, e, Nat.lt_of_lt_of_le hl hb.size, fun j p hp => ⟨(hb.cell (p := ⟨b, _, none⟩) hl).trans (hc j p hp).1, (hb.cell (p := ⟨b, _, none⟩) hl).trans (hc j p hp).2⟩⟩
theorem SentIn.next {w : World} {A : Option Addr} {gs : List (Nat × Int)} (h : SentIn w A gs) {i : Nat} (hi : i < gs.length) : ∃ b off n d, A = some ⟨b, off, none⟩ ∧ gs[i]? = some (n, d) ∧ (w.cell? ⟨b, off + i * 2, none⟩ = some (.int .i64 (n : Int)) ∧ w.cell? ⟨b, off + i * 2 + 1, none⟩ = some (.int .i64 d)) ∧ b < w.heap.size := by
  obtain ⟨b, off, e, hl, hc⟩ := h.at_ (by omega)
  exact ⟨b, off, gs[i].1, gs[i].2, e, List.getElem?_eq_getElem hi, hc i _ (List.getElem?_eq_getElem hi), hl⟩
theorem SentIn.nil (w : World) (A : Option Addr) : SentIn w A [] := ⟨fun h => absurd h (by decide)⟩

def sns (gs : List (Nat × Int)) : List Value := gs.flatMap fun p => [.int .i64 (p.1 : Int), .int .i64 p.2]
theorem sns_length (gs : List (Nat × Int)) : (sns gs).length = gs.length * 2 := by
  induction gs with
  | nil => rfl
  | cons p gs ih =>
    unfold sns at *
    rw [List.flatMap_cons, List.length_append, ih, List.length_cons, List.length_cons, List.length_cons, List.length_nil]
    omega
theorem sns_append (a b : List (Nat × Int)) : sns (a ++ b) = sns a ++ sns b := List.flatMap_append
theorem sns_at {gs : List (Nat × Int)} {j : Nat} {p : Nat × Int} (h : gs[j]? = some p) : (sns gs)[j * 2]? = some (.int .i64 (p.1 : Int)) ∧ (sns gs)[j * 2 + 1]? = some (.int .i64 p.2) := by
  induction gs generalizing j with
  | nil => cases h
  | cons q gs ih =>
    cases j with
    | zero =>
      rw [List.getElem?_cons_zero] at h
      injection h with h
      subst h
      exact ⟨rfl, rfl⟩
    | succ j =>
      rw [List.getElem?_cons_succ] at h
      have := ih h
      rw [show (j + 1) * 2 = j * 2 + 2 by omega, show j * 2 + 2 + 1 = j * 2 + 1 + 2 by omega]
      exact this
theorem sns_one (gs : List (Nat × Int)) : ∀ u ∈ sns gs, u.oneCell' = true := by
  intro u hu
  unfold sns at hu
  obtain ⟨p, _, hu⟩ := List.mem_flatMap.1 hu
  simp only [List.mem_cons, List.not_mem_nil, or_false] at hu
  rcases hu with rfl | rfl <;> rfl
theorem sns_laid (w : World) (gs : List (Nat × Int)) : SentIn (w.alloc (.cells (sns gs).toArray 35)) (some ⟨w.heap.size, 0, none⟩) gs :=
  ⟨fun _ => ⟨w.heap.size, 0, rfl, by simp, fun j p hp => by
    obtain ⟨h1, h2⟩ := sns_at hp
    rw [Nat.zero_add, cell_of_row _ _ (j * 2) _ _ _ (heap_alloc_new w _), cell_of_row _ _ (j * 2 + 1) _ _ _ (heap_alloc_new w _), ← h1, ← h2]
    simp⟩⟩

/-- Pairs of one's own. -/
def OwnS (B : Nat) (w : World) (v : Value) (gs : List (Nat × Int)) : Prop := w.ownsRow B 35 2 v gs.length (sns gs)
theorem OwnS.nil (B : Nat) (w : World) : OwnS B w (.slice none 0 0) [] := ⟨rfl, .inl ⟨rfl, rfl⟩⟩
theorem OwnS.block {B : Nat} {w w' : World} {v : Value} {gs : List (Nat × Int)} (h : OwnS B w v gs) (hb : ∀ k, B ≤ k → k < w.heap.size → w'.heap[k]? = w.heap[k]?) : OwnS B w' v gs := by
  refine ⟨h.1, ?_⟩
  rcases h.2 with hn | ⟨g, cap, cur, rfl, hB, hgg, rest⟩
  · exact .inl hn
  · exact .inr ⟨g, cap, cur, rfl, hB, (hb g hB (World.ownsRow.lt h g rfl).2).trans hgg, rest⟩
theorem OwnS.below {B : Nat} {w w' : World} {v : Value} {gs : List (Nat × Int)} (h : OwnS B w v gs) (hb : Below w.heap.size w w') : OwnS B w' v gs := h.block fun k _ hk => hb.block k hk
theorem OwnS.form {B : Nat} {w : World} {v : Value} {gs : List (Nat × Int)} (h : OwnS B w v gs) : ∃ A cap, v = .slice A gs.length cap ∧ SentIn w A gs := by
  rcases h.2 with ⟨rfl, h0⟩ | ⟨g, cap, cur, rfl, hB, hg, hn, _, hs, ht⟩
  · exact ⟨none, 0, by rw [h0], ⟨fun h => by omega⟩⟩
  · refine ⟨_, cap, rfl, ⟨fun _ => ⟨g, 0, rfl, (World.ownsRow.lt h g rfl).2, fun j p hp => ?_⟩⟩⟩
    have hj : j < gs.length := (List.getElem?_eq_some_iff.1 hp).1
    obtain ⟨h1, h2⟩ := sns_at hp
    rw [← ht, List.getElem?_take_of_lt (by omega), Array.getElem?_toList] at h1 h2
    rw [Nat.zero_add, cell_of_row w g _ cur _ _ hg, cell_of_row w g _ cur _ _ hg]
    exact ⟨h1, h2⟩
theorem under_sents : Try.prog.underlying 25 = some (.slice 35) := by kernel_rfl
theorem info_sent : (Try.prog.info? 35).map (fun i => (i.zero, i.size, i.bytes)) = some (some (.agg #[.int .i64 0, .int .i64 0]), 2, 16) := by kernel_rfl
theorem info_three {e : TypeId} {z : Value} {s y : Nat} (h : (Try.prog.info? e).map (fun i => (i.zero, i.size, i.bytes)) = some (some z, s, y)) : ∃ i, Try.prog.info? e = some i ∧ i.zero = some z ∧ i.size = s ∧ i.bytes = y := by
  obtain ⟨i, h1, h2⟩ := Option.map_eq_some_iff.1 h
  simp only [Prod.mk.injEq] at h2
  exact ⟨i, h1, h2⟩
/-- A new pair in a block of its own. -/
def laidS (w : World) (k : Nat) (b : Int) : World := w.alloc (.cells #[.int .i64 (k : Int), .int .i64 b] 35)
theorem sent_append {B : Nat} {w : World} {v : Value} {us : List (Nat × Int)} (h : OwnS B w v us) (k : Nat) (b : Int) (hB : B ≤ w.heap.size) (hn : us.length ≤ 100000) :
    ∃ v' W, (∀ ty, (Builtin.append_ #[25, 25] ty #[v, .slice (some ⟨w.heap.size, 0, none⟩) 1 1]).run Try.prog (laidS w k b) = .ok v' W) ∧ OwnS B W v' (us ++ [(k, b)]) ∧ Below B w W := by
  obtain ⟨i0, hi, hz0, hz1, hz2⟩ := info_three info_sent
  have bo : Below w.heap.size w (laidS w k b) := (Below.refl _ _).alloc (Nat.le_refl _) _
  have hsz : (laidS w k b).heap.size = w.heap.size + 1 := by simp [laidS]
  have key := fun ty => run_append_own_at (P := Try.prog) (laidS w k b) B 25 ty 35 i0 _ 2 16 under_sents hi hz0 hz1 hz2 rfl (by decide) v us.length (sns us) (h.below bo)
    ⟨w.heap.size, 0, none⟩ 1 1 (sns [(k, b)]) rfl (fun j x hx => by
      have hadd : (⟨w.heap.size, 0, none⟩ : Addr).add j = ⟨w.heap.size, j, none⟩ := by unfold Addr.add; split <;> simp_all
      unfold laidS
      rw [hadd, cell_of_row _ _ j _ _ _ (heap_alloc_new w _)]
      rcases (by have := (List.getElem?_eq_some_iff.1 hx).1; simp [sns] at this; omega : j = 0 ∨ j = 1) with rfl | rfl <;> (simp [sns] at hx; subst hx; rfl)) (sns_one _) (by simp only [maxLen]; omega) (by omega) (by omega)
  obtain ⟨v', W, hr, h2, h3, _, _⟩ := key 0
  refine ⟨v', W, fun ty => hr, ?_, ⟨h3.os.trans bo.os, h3.tape.trans bo.tape, h3.output.trans bo.output, by have := h3.size; omega, fun k hk => ?_⟩⟩
  · unfold OwnS
    rw [sns_append, List.length_append]
    exact h2
  · exact (h3.block k (by omega) (fun e => by
      have := (World.ownsRow.lt (h.below bo) k e.symm).1
      omega)).trans (bo.block k (by omega))
/-- An append whose run is known, at a plain region's list. -/
theorem wpList_append_g {P : Program} {ops : Array Oper} {rest : List Oper} {o : Oper} {a : Act} {w : World} {Q : Exit → Act → World → Prop} (hgd : o.guard = none) (s x : Operand) (t u : TypeId)
    (ho : o.op = .call { callee := .builtin .append, args := #[s, x], argTypes := #[t, u] })
    {vs vx v : Value} {w' : World} (hs : a.eval s = vs) (hx : a.eval x = vx) (hrun : (Builtin.append_ #[t, u] o.type #[vs, vx]).run P w = .ok v w') (h : wpList P ops Q rest (a.put o.dst v) w') : wpList P ops Q (o :: rest) a w :=
  wpList_plain hgd fun _ hK => by
    unfold Oper.wp execOp
    simp only [ho, resolve, invoke, builtin, Sem.run_bind, Sem.run_pure, Result.andThen_ok, List.map_toArray, List.map_cons, List.map_nil, hs, hx, hrun]
    exact hK _ _ h
/-- The same as one step of a region that draws. -/
theorem step_append_g {P : Program} {ops : Array Oper} {o : Oper} {a : Act} {w : World} {K : Act → World → Prop} {Q : Exit → Act → World → Prop} {E : Prop}
    (hg : o.guard = none) (s x : Operand) (t : TypeId) (hop : o.op = Op.call { callee := Callee.builtin Builtin.append, args := #[s, x], argTypes := #[t, t] })
    {vs vx v : Value} {w' : World} (hs : a.eval s = vs) (hx : a.eval x = vx) (hrun : (Builtin.append_ #[t, t] o.type #[vs, vx]).run P w = .ok v w') (hK : K (a.put o.dst v) w') :
    if Region.wanted o (yielded ops a.tmps) = true then Oper.wp P o a w K Q else E := by
  have hw : Region.wanted o (yielded ops a.tmps) = true := by simp [Region.wanted, hg]
  rw [if_pos hw]
  unfold Oper.wp execOp
  simp only [hop, resolve, invoke, builtin, Sem.run_bind, Sem.run_pure, Result.andThen_ok, List.map_toArray, List.map_cons, List.map_nil, hs, hx, hrun]
  exact hK

/-! ### equal -/
set_option maxHeartbeats 1000000 in
theorem sent_equal (w : World) (a b c d : Int) : (Op.equalIn 10000 35 (.agg #[.int .i64 a, .int .i64 b]) (.agg #[.int .i64 c, .int .i64 d])).run Try.prog w = .ok (decide (a = c) && decide (b = d)) w := by
  have u3 := Try.underlying3
  have a3 := Try.isAgg3
  have z3 := Try.sizeOf3
  have hS : Try.prog.underlying 35 = some (.struct (Try.prog.fieldsOf 35)) := by kernel_rfl
  have hp : Try.prog.stoodInHeld 35 = false := by kernel_rfl
  rw [show (10000 : Nat) = 9999 + 1 from rfl, run_equalIn_struct w 9999 35 _ _ hS hp]
  simp only [Program.fieldsOf, Try.underlying35]
  go_simp
  by_cases h1 : a = c <;> by_cases h2 : b = d <;> simp [h1, h2]
theorem sent_neq (w : World) (a b c d : Int) : (binOp .neq 35 (.agg #[.int .i64 a, .int .i64 b]) (.agg #[.int .i64 c, .int .i64 d])).run Try.prog w = .ok (.bool (!(decide (a = c) && decide (b = d)))) w := by
  rw [run_neq_struct, sent_equal]
  rfl
theorem sent_same {a c : Nat} {b d : Int} (h : (a, b) = (c, d)) : (decide ((a : Int) = (c : Int)) && decide (b = d)) = true := by
  injection h with h1 h2
  subst h1 h2
  simp
theorem sent_other {a c : Nat} {b d : Int} (h : (a, b) ≠ (c, d)) : (decide ((a : Int) = (c : Int)) && decide (b = d)) = false := by
  cases h1 : decide ((a : Int) = (c : Int)) with
  | false => rfl
  | true =>
    cases h2 : decide (b = d) with
    | false => rfl
    | true =>
      have h3 := of_decide_eq_true h1
      exact absurd (by rw [show a = c by omega, of_decide_eq_true h2]) h

theorem take_snocS {xs : List (Nat × Int)} {i : Nat} {x : Nat × Int} (h : xs[i]? = some x) : xs.take (i + 1) = xs.take i ++ [x] := by
  rw [List.take_add_one, h]; rfl
theorem eq_of_takeS {xs ys : List (Nat × Int)} {n : Nat} (h1 : xs.length = n) (h2 : ys.length = n) (h : xs.take n = ys.take n) : xs = ys := by
  rwa [List.take_of_length_le (by omega), List.take_of_length_le (by omega)] at h
theorem take_nextS {xs ys : List (Nat × Int)} {i : Nat} {x y : Nat × Int} (h : xs.take i = ys.take i) (hx : xs[i]? = some x) (hy : ys[i]? = some y) (he : x = y) : xs.take (i + 1) = ys.take (i + 1) := by
  rw [take_snocS hx, take_snocS hy, h, he]
theorem ne_of_atS {xs ys : List (Nat × Int)} {i : Nat} {x y : Nat × Int} (hx : xs[i]? = some x) (hy : ys[i]? = some y) (h : x ≠ y) : xs ≠ ys := by
  rintro rfl
  rw [hx] at hy
  injection hy with e
  exact h e

set_option maxRecDepth 100000 in
set_option maxHeartbeats 4000000 in
theorem equal_sents {w : World} {A1 A2 : Option Addr} {xs ys : List (Nat × Int)} (h1 : SentIn w A1 xs) (h2 : SentIn w A2 ys) (c1 c2 : Nat) (hl16 : xs.length ≤ 100000) :
    Calls Try.prog 12 #[.slice A1 xs.length c1, .slice A2 ys.length c2] w fun e w' => e = .returned (.bool (decide (xs = ys))) ∧ ∃ k, w' = w.drewN k := by
  by_cases hl : xs.length = ys.length
  · obtain ⟨n, hn⟩ : ∃ n, xs.length = n := ⟨_, rfl⟩
    have hn2 : ys.length = n := by omega
    have HN := Lib.hid (And.intro hn hn2)
    have H1 := Lib.hid h1
    have H2 := Lib.hid h2
    rw [hn] at hl16 ⊢
    rw [hn2]
    clear h1 h2 hl hn hn2
    go_enter Try.func12, Try.ntmps12
    go_wp2_with fail
    go_loopg [13] n (fun k c wr => ∃ i t : Nat, c = .int .i64 (i : Int) ∧ i + k = n ∧ wr = w.drewN t ∧ Hid (xs.take i = ys.take i))
    case atStart => exact ⟨0, 0, rfl, by omega, rfl, Lib.hid rfl⟩
    case round =>
      obtain ⟨i, t, rfl, hik, rfl, HT⟩ := hrel
      cases gk with
      | zero =>
        obtain rfl : i = n := by omega
        go_wp2_with fail
        go_ret
        exact ⟨ret_bool (decide_eq_true (eq_of_takeS HN.out.1 HN.out.2 HT.out)).symm, t, rfl⟩
      | succ k =>
        have hi : i < n := by omega
        have i1 : (i : Int) < (n : Int) := by omega
        obtain ⟨b1, o1, a, b, rfl, hx, ⟨d0, d1⟩, _⟩ := H1.out.next (i := i) (by have := HN.out.1; omega)
        obtain ⟨b2, o2, c, d, rfl, hy, ⟨d2, d3⟩, _⟩ := H2.out.next (i := i) (by have := HN.out.2; omega)
        have hne := fun w => sent_neq w (a : Int) b (c : Int) d
        by_cases he : (a, b) = (c, d)
        · have HM := Lib.hid (take_nextS HT.out hx hy he)
          rw [sent_same he] at hne
          clear hx hy HT he
          generalize (a : Int) = a at *
          generalize (c : Int) = c at *
          go_wp2_with fail
          go_quiet (fail)
          go_wp2_with fail
          go_roundg k
          case measure => omega
          case rel => exact ⟨i + 1, t + nq, by go_num, by omega, rfl, HM⟩
        · have HM := Lib.hid (ne_of_atS hx hy he)
          rw [sent_other he] at hne
          clear hx hy HT he
          generalize (a : Int) = a at *
          generalize (c : Int) = c at *
          go_wp2_with fail
          go_quiet (fail)
          go_wp2_with fail
          go_ret
          exact ⟨ret_bool (decide_eq_false HM.out).symm, t + nq, World.drewN_drewN _ _ _⟩
  · have hb : ((xs.length : Int) != (ys.length : Int)) = true := by simp; omega
    have HM := Lib.hid (show xs ≠ ys from fun e => hl (by rw [e]))
    clear hl h1 h2
    go_enter Try.func12, Try.ntmps12
    go_wp2_with fail
    go_ret
    exact ⟨ret_bool (decide_eq_false HM.out).symm, 0, rfl⟩
end Go.Proofs.Ytobkepipmmkboaa
