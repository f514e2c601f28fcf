/- Slices of ints: append of whatever length, slices.Equal. -/
import Derived.Test.YtdlmiiekcpbdcaaIn2
import Derived.Deep.Upon
namespace Go.Proofs.Ytdlmiiekcpbdcaa
open Go.RowKit Go.Maps

/-- An append whose run is known, at a plain region's list. -/
theorem wpList_append_eq {P : Program} {ops : Array Oper} {rest : List Oper} {o : Oper} {a : Act} {w : World} {Q : Exit → Act → World → Prop} (hgd : o.guard = none) (s x : Operand) (t u : TypeId)
    (ho : o.op = .call { callee := .builtin .append, args := #[s, x], argTypes := #[t, u] })
    {vs vx v : Value} {w' : World} (hs : a.eval s = vs) (hx : a.eval x = vx) (hrun : (Builtin.append_ #[t, u] o.type #[vs, vx]).run P w = .ok v w') (h : wpList P ops Q rest (a.put o.dst v) w') : wpList P ops Q (o :: rest) a w :=
  wpList_plain hgd fun _ hK => by
    unfold Oper.wp execOp
    simp only [ho, resolve, invoke, builtin, Sem.run_bind, Sem.run_pure, Result.andThen_ok, List.map_toArray, List.map_cons, List.map_nil, hs, hx, hrun]
    exact hK _ _ h

theorem fifo_app {B : Nat} {w : World} {A As : Option Addr} {xs ys : List Int} {cap : Nat} (h : Fifo B w A xs cap) (hy : IntsIn w As ys) (capy : Nat) (hB : B ≤ w.heap.size) (hn : (xs.length + ys.length) * 8 ≤ 140737488355328) :
    ∃ A' cap' W, (∀ ty, (Builtin.append_ #[35, 35] ty #[.slice A xs.length cap, .slice As ys.length capy]).run Try.prog w = .ok (.slice A' (xs.length + ys.length) cap') W) ∧
      Fifo B W A' (xs ++ ys) cap' ∧ Chg (Ab A) w W ∧ ∀ g, Ab A' g → Ab A g ∨ w.heap.size ≤ g := by
  by_cases h0 : 0 < ys.length
  · exact fifo_append h hy capy hB hn h0
  · obtain rfl : ys = [] := List.eq_nil_of_length_eq_zero (by omega)
    obtain ⟨i, hi, hz0, hz1, hz2⟩ := info_parts info_i64
    rw [List.append_nil]
    refine ⟨A, cap, w, fun ty => ?_, h, Chg.refl _ _, fun g hg => .inl hg⟩
    cases As with
    | none => exact run_append_nothing w _ _ ty _ i under_ints hi A xs.length cap h.le _ (Src.ofNil w under_ints capy)
    | some a => exact run_append_nothing w _ _ ty _ i under_ints hi A xs.length cap h.le _ (Src.ofSlice w under_ints a 0 capy [] (by simp) (by simp) (by simp))

theorem Fifo.empty (w : World) (k : Nat) {B : Nat} (h : B ≤ k) (hk : k < w.heap.size) : Fifo B w (some ⟨k, 0, none⟩) [] 0 := ⟨Nat.le_refl _, Nat.zero_le _, fun h => by omega, fun g hg => by obtain ⟨a, e, rfl⟩ := hg; injection e with e; subst e; exact ⟨h, hk⟩⟩

theorem eq_of_takeI {xs ys : List Int} {n : Nat} (h1 : xs.length = n) (h2 : ys.length = n) (h : xs.take n = ys.take n) : xs = ys := by
  rwa [List.take_of_length_le (by omega), List.take_of_length_le (by omega)] at h
theorem take_nextI {xs ys : List Int} {i : Nat} {x : Int} (h : xs.take i = ys.take i) (hx : xs[i]? = some x) (hy : ys[i]? = some x) : xs.take (i + 1) = ys.take (i + 1) := by
  rw [take_snocI hx, take_snocI hy, h]
theorem ne_of_atI {xs ys : List Int} {i : Nat} {x y : Int} (hx : xs[i]? = some x) (hy : ys[i]? = some y) (h : x ≠ y) : xs ≠ ys := by
  rintro rfl
  rw [hx] at hy
  injection hy with e
  exact h e

set_option maxRecDepth 100000 in
set_option maxHeartbeats 4000000 in
theorem equal_any {w : World} {A1 A2 : Option Addr} {xs ys : List Int} (h1 : IntsIn w A1 xs) (h2 : IntsIn w A2 ys) (c1 c2 : Nat) :
    Calls Try.prog 19 #[.slice A1 xs.length c1, .slice A2 ys.length c2] w fun e w' => e = .returned (.bool (decide (xs = ys))) ∧ ∃ k, w' = w.drewN k := by
  have hl1 := h1.len
  have hl2 := h2.len
  by_cases hl : xs.length = ys.length
  · obtain ⟨n, hn⟩ : ∃ n, xs.length = n := ⟨_, rfl⟩
    have hn2 : ys.length = n := by omega
    have HN := Lib.hid (And.intro hn hn2)
    have H1 := Lib.hid h1
    have H2 := Lib.hid h2
    rw [hn] at hl1 ⊢
    rw [hn2]
    clear h1 h2 hl hl2 hn hn2
    go_enter Try.func19, Try.ntmps19
    go_wp2_with fail
    go_loopg [13] n (fun k c wr => ∃ i t : Nat, c = .int .i64 (i : Int) ∧ i + k = n ∧ wr = w.drewN t ∧ Hid (xs.take i = ys.take i))
    case atStart => exact ⟨0, 0, rfl, by omega, rfl, Lib.hid rfl⟩
    case round =>
      obtain ⟨i, t, rfl, hik, rfl, HT⟩ := hrel
      cases gk with
      | zero =>
        obtain rfl : i = n := by omega
        go_wp2_with fail
        go_ret
        exact ⟨ret_bool (decide_eq_true (eq_of_takeI HN.out.1 HN.out.2 HT.out)).symm, t, rfl⟩
      | succ k =>
        have hi : i < n := by omega
        have i1 : (i : Int) < (n : Int) := by omega
        obtain ⟨b1, o1, x, rfl, hx, hat1, _⟩ := H1.out.next (i := i) (by have := HN.out.1; omega)
        obtain ⟨b2, o2, y, rfl, hy, hat2, _⟩ := H2.out.next (i := i) (by have := HN.out.2; omega)
        by_cases he : x = y
        · subst he
          have HM := Lib.hid (take_nextI HT.out hx hy)
          clear hx hy HT
          go_wp2_with fail
          go_quiet (fail)
          go_wp2_with fail
          go_roundg k
          case measure => omega
          case rel => exact ⟨i + 1, t + nq, by go_num, by omega, rfl, HM⟩
        · have HM := Lib.hid (ne_of_atI hx hy he)
          have hb : (x != y) = true := by simpa using he
          clear hx hy HT he
          go_wp2_with fail
          go_quiet (fail)
          go_wp2_with fail
          go_ret
          exact ⟨ret_bool (decide_eq_false HM.out).symm, t + nq, World.drewN_drewN _ _ _⟩
  · have hb : ((xs.length : Int) != (ys.length : Int)) = true := by simp; omega
    have HM := Lib.hid (show xs ≠ ys from fun e => hl (by rw [e]))
    clear hl h1 h2 hl1 hl2
    go_enter Try.func19, Try.ntmps19
    go_wp2_with fail
    go_ret
    exact ⟨ret_bool (decide_eq_false HM.out).symm, 0, rfl⟩
end Go.Proofs.Ytdlmiiekcpbdcaa
