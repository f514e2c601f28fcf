/- slices.Insert of one operation ahead of operations of the call's own: the walk. -/
import Derived.Test.YtbckppflfgdblaaHp40
namespace Go.Proofs.Ytbckppflfgdblaa
open Go.RowKit Go.Maps

/-- A copy whose run is known, at a plain region's list, and at a step of a region that draws. -/
theorem wpList_copy_eq {P : Program} {ops : Array Oper} {rest : List Oper} {o : Oper} {a : Act} {w : World} {Q : Exit → Act → World → Prop} (hgd : o.guard = none) (s x : Operand) (t : TypeId)
    (ho : o.op = .call { callee := .builtin .copy, args := #[s, x], argTypes := #[t, t] })
    {vs vx v : Value} {w' : World} (hs : a.eval s = vs) (hx : a.eval x = vx) (hrun : (Builtin.copy_ #[t, t] o.type #[vs, vx]).run P w = .ok v w') (h : wpList P ops Q rest (a.put o.dst v) w') : wpList P ops Q (o :: rest) a w :=
  wpList_plain hgd fun _ hK => by
    unfold Oper.wp execOp
    simp only [ho, resolve, invoke, builtin, Sem.run_bind, Sem.run_pure, Result.andThen_ok, List.map_toArray, List.map_cons, List.map_nil, hs, hx, hrun]
    exact hK _ _ h
theorem step_copy_eq {P : Program} {ops : Array Oper} {o : Oper} {a : Act} {w : World} {K : Act → World → Prop} {Q : Exit → Act → World → Prop} {E : Prop}
    (hg : o.guard = none) (s x : Operand) (t : TypeId) (hop : o.op = Op.call { callee := Callee.builtin Builtin.copy, args := #[s, x], argTypes := #[t, t] })
    {vs vx v : Value} {w' : World} (hs : a.eval s = vs) (hx : a.eval x = vx) (hrun : (Builtin.copy_ #[t, t] o.type #[vs, vx]).run P w = .ok v w') (hK : K (a.put o.dst v) w') :
    if Region.wanted o (yielded ops a.tmps) = true then Oper.wp P o a w K Q else E := by
  have hw : Region.wanted o (yielded ops a.tmps) = true := by simp [Region.wanted, hg]
  rw [if_pos hw]
  unfold Oper.wp execOp
  simp only [hop, resolve, invoke, builtin, Sem.run_bind, Sem.run_pure, Result.andThen_ok, List.map_toArray, List.map_cons, List.map_nil, hs, hx, hrun]
  exact hK
theorem wpList_zeros_eq {P : Program} {ops : Array Oper} {rest : List Oper} {o : Oper} {a : Act} {w : World} {Q : Exit → Act → World → Prop} (hgd : o.guard = none) (s x : Operand) (t u : TypeId)
    (ho : o.op = .call { callee := .builtin .append, args := #[s, x], argTypes := #[t, u] })
    {vs vx v : Value} {w' : World} (hs : a.eval s = vs) (hx : a.eval x = vx) (hrun : (Builtin.append_ #[t, u] o.type #[vs, vx]).run P w = .ok v w') (h : wpList P ops Q rest (a.put o.dst v) w') : wpList P ops Q (o :: rest) a w :=
  wpList_plain hgd fun _ hK => by
    unfold Oper.wp execOp
    simp only [ho, resolve, invoke, builtin, Sem.run_bind, Sem.run_pure, Result.andThen_ok, List.map_toArray, List.map_cons, List.map_nil, hs, hx, hrun]
    exact hK _ _ h

def Inserted (B : Nat) (v : Value) (o : Op4) (os : List Op4) (w : World) (e : Ending) (w' : World) : Prop :=
  ∃ v', e = .returned v' ∧ OwnOps B w' v' (o :: os) ∧ Chg (fun k => v.ownBlock = some k) w w' ∧ (∀ g, v'.ownBlock = some g → v.ownBlock = some g ∨ w.heap.size ≤ g)

theorem inserted_room {B : Nat} {w W : World} {o : Op4} {os : List Op4} {g cap n m : Nat} (h : OwnOps B W (.slice (some ⟨g, 0, none⟩) m cap) (o :: os) ∧ Chg (fun k => k = g) w W) : Inserted B (.slice (some ⟨g, 0, none⟩) n cap) o os w (.returned (.slice (some ⟨g, 0, none⟩) m cap)) W :=
  ⟨_, rfl, h.1, h.2.mono (fun k _ e => by rw [e]; rfl), fun _ hk => .inl hk⟩
theorem inserted_new {B : Nat} {w W : World} {o : Op4} {os : List Op4} {G m : Nat} {v : Value} (h : OwnOps B W (.slice (some ⟨w.heap.size, 0, none⟩) m G) (o :: os) ∧ Below w.heap.size w W) : Inserted B v o os w (.returned (.slice (some ⟨w.heap.size, 0, none⟩) m G)) W :=
  ⟨_, rfl, h.1, Chg.of_below h.2 _, fun k hk => .inr (by simp only [Value.ownBlock, Option.some.injEq] at hk; omega)⟩

set_option maxRecDepth 100000 in
set_option maxHeartbeats 2000000 in
theorem insert_nil {B : Nat} {w : World} {o : Op4} {bl : Nat} (hB : B ≤ w.heap.size) (hbl : w.heap[bl]? = some (.cells (opCells [o]).toArray 37 (0, 0))) :
    Calls Try.prog 22 #[.slice none 0 0, .int .i64 0, .slice (some ⟨bl, 0, none⟩) 1 1] w (Inserted B (.slice none 0 0) o [] w) := by
  obtain ⟨g, cap, W2, r, h1, h2⟩ := ops_append (B := B) (w := w) (v := .slice none 0 0) (os := []) (ns := [o]) (World.ownsRow_nil _ _ _ _) hB (by simp) (by simp) hbl
  have HX := Lib.hid (And.intro h1 h2)
  simp only [List.length_nil, List.length_singleton, Nat.zero_add] at r
  have hg : w.heap.size ≤ g ∨ g < w.heap.size := by omega
  have HG := Lib.hid (show ∀ k, (Value.slice (some ⟨g, 0, none⟩) 1 cap).ownBlock = some k → w.heap.size ≤ k from fun k hk => by
    simp only [Value.ownBlock, Option.some.injEq] at hk
    subst hk
    obtain ⟨i0, hi, hz0, hz1, hz2⟩ := info_parts Try.info37
    obtain ⟨g', cap', W', hr', _, _, h4, _⟩ := run_append_lies (P := Try.prog) w 22 22 B 37 i0 _ 4 32 Try.underlying22 hi hz0 hz1 hz2 rfl (by decide) (.slice none 0 0) 0 [] (World.ownsRow_nil _ _ _ _)
      ⟨bl, 0, none⟩ 1 1 (opCells [o]) rfl (by have := World.news_of_block hbl; simpa using this) (opCells_one [o]) (by decide) (by simp only [maxLen]; omega) (by omega) hB _ rfl
    simp only [Nat.zero_add] at hr'
    rw [hr'] at r
    simp only [Result.ok.injEq, Value.slice.injEq, Option.some.injEq, Addr.mk.injEq] at r
    obtain ⟨⟨⟨e1, _⟩, _⟩, _⟩ := r
    rcases h4 with h4 | h4
    · cases h4
    · omega)
  clear h1 h2 hg hbl
  go_enter Try.func22, Try.ntmps22
  go_wp2_with (at_builtin; refine wpList_append_eq rfl (.tmp 23) (.tmp 24) 22 rfl rfl rfl r ?_)
  go_ret
  exact ⟨_, rfl, HX.out.1, HX.out.2, fun k hk => .inr (HG.out k hk)⟩

set_option maxRecDepth 100000 in
set_option maxHeartbeats 2000000 in
theorem insert_some {B : Nat} {w : World} {o : Op4} {os : List Op4} {g cap bl : Nat} (h : OwnOps B w (.slice (some ⟨g, 0, none⟩) os.length cap) os) (hB : B ≤ w.heap.size) (hbl : w.heap[bl]? = some (.cells (opCells [o]).toArray 37 (0, 0))) (hne : bl ≠ g) (h0 : 0 < os.length) (hn : (os.length + 1) * 32 ≤ 140737488355328) :
    Calls Try.prog 22 #[.slice (some ⟨g, 0, none⟩) os.length cap, .int .i64 0, .slice (some ⟨bl, 0, none⟩) 1 1] w (Inserted B (.slice (some ⟨g, 0, none⟩) os.length cap) o os w) := by
  obtain ⟨hBg, hnc, hcm, F, hF, hx⟩ := ops_row h
  by_cases hroom : os.length + 1 ≤ cap
  · obtain ⟨W1, r1, W2, r2, h1, h2⟩ := insert_room h hbl hne hroom
    have hov := fun lb cb => overlaps_no hF (by omega) hbl hne 4 lb cb
    have HX := Lib.hid (And.intro h1 h2)
    clear h1 h2 h hbl hF hx hn hBg hB hne
    obtain ⟨n, hl⟩ : ∃ n, os.length = n := ⟨_, rfl⟩
    rw [hl] at h0 r1 r2 hroom hnc HX ⊢
    have HL := Lib.hid hl
    clear hl
    have t1 : ¬ ((0 : Int) = (n : Int)) := by omega
    have t2 : (n : Int) + 1 ≤ (cap : Int) := by omega
    have t3 : ¬ cap = 1 := by omega
    have t4 : ¬ cap = 0 := by omega
    have t5 : ¬ (cap : Int) < (n : Int) + 1 := by omega
    have w1 : IntKind.i64.wrap 1 = 1 := by decide
    have t7 : (1 : Int) ≤ (n : Int) + 1 := by omega
    have t8 : (0 : Int) ≤ (n : Int) + 1 := by omega
    go_enter Try.func22, Try.ntmps22
    go_wp2_with (simp only [hov])
    go_region_law (refine step_copy_eq rfl (.tmp 73) (.tmp 76) 22 rfl (by simp [Act.eval, Act.put]) (by simp [Act.eval, Act.put]) (r1 _ (cap - 1) cap) ?_)
    all_goals
      go_wp2_with (at_builtin; refine wpList_copy_eq rfl (.tmp 80) (.tmp 81) 22 rfl rfl rfl (r2 _ _) ?_)
      go_ret
      exact inserted_room HX.out
  · obtain ⟨G, W0, r0, hG1, hG2, W1, r1, W2, r2, h1, h2⟩ := insert_grow h hbl hB h0 (by omega) hn
    have HX := Lib.hid (And.intro h1 h2)
    clear h1 h2 h hbl hF hx hn hBg hB hne
    obtain ⟨n, hl⟩ : ∃ n, os.length = n := ⟨_, rfl⟩
    rw [hl] at h0 r0 r1 r2 hroom hnc hG1 HX ⊢
    clear hl
    obtain rfl : cap = n := by omega
    have t1 : ¬ ((0 : Int) = (cap : Int)) := by omega
    have t3 : ¬ cap = 0 := by omega
    have t4 : ¬ G = 0 := by omega
    have t5 : ¬ G = 1 := by omega
    have t6 : (cap : Int) + 1 ≤ (G : Int) := by omega
    have w1 : IntKind.i64.wrap 1 = 1 := by decide
    have t7 : (1 : Int) ≤ (cap : Int) + 1 := by omega
    have t8 : (0 : Int) ≤ (cap : Int) + 1 := by omega
    go_enter Try.func22, Try.ntmps22
    go_wp2_with (first | (at_builtin; refine wpList_zeros_eq rfl (.tmp 34) (.tmp 39) 22 3 rfl rfl rfl (r0 _) ?_) | (at_builtin; refine wpList_copy_eq rfl (.tmp 43) (.tmp 44) 22 rfl rfl rfl (r1 _ _) ?_))
    go_region_law (refine step_copy_eq rfl (.tmp 50) (.tmp 53) 22 rfl (by simp [Act.eval, Act.put]) (by simp [Act.eval, Act.put]) (r2 _ (G - 1) cap) ?_)
    all_goals
      go_wp2
      go_ret
      exact inserted_new HX.out

end Go.Proofs.Ytbckppflfgdblaa
