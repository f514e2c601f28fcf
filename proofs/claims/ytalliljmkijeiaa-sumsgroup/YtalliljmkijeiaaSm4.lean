/- Slices of bytes: a copy (slices.Clone), an append, slices.Grow of nil, slices.Concat of two. -/
import Derived.Test.YtalliljmkijeiaaSm3
namespace Go.Proofs.Ytalliljmkijeiaa
open Go.RowKit Go.Maps

def OwnB (B : Nat) (w : World) (v : Value) (bs : List Int) : Prop := w.ownsRow B 5 1 v bs.length (u8s bs)
theorem OwnB.form {B : Nat} {w : World} {v : Value} {bs : List Int} (h : OwnB B w v bs) (hb : Bytes bs) (hl : bs.length ≤ 281474976710656) :
    ∃ A cap, v = .slice A bs.length cap ∧ Lies w A bs := by
  rcases h.2 with ⟨rfl, h0⟩ | ⟨g, cap, cur, rfl, hB, hg, hn, _, hs, ht⟩
  · exact ⟨none, 0, by rw [h0], fun h => by omega, hb, hl⟩
  · refine ⟨_, cap, rfl, fun _ => ⟨g, 0, rfl, (World.ownsRow.lt h g rfl).2, fun j x hx => ?_⟩, hb, hl⟩
    have hj : j < bs.length := by
      rcases Nat.lt_or_ge j bs.length with h | h
      · exact h
      · rw [List.getElem?_eq_none h] at hx; cases hx
    rw [Nat.zero_add, cell_of_row w g _ cur _ _ hg, ← u8s_at hx, ← ht, List.getElem?_take_of_lt (by omega), Array.getElem?_toList]
theorem OwnB.below {B : Nat} {w w' : World} {v : Value} {bs : List Int} (h : OwnB B w v bs) (hb : Below w.heap.size w w') : OwnB B w' v bs := by
  refine ⟨h.1, ?_⟩
  rcases h.2 with hn | ⟨g, cap, cur, rfl, hB, hgg, rest⟩
  · exact .inl hn
  · exact .inr ⟨g, cap, cur, rfl, hB, (hb.block g (World.ownsRow.lt h g rfl).2).trans hgg, rest⟩
theorem below_grown {B : Nat} {a b : World} {r : Option Nat} (h : a.grownBy b r) (hB : B ≤ a.heap.size) (hr : ∀ k, r = some k → B ≤ k) : Below B a b :=
  ⟨h.os, h.tape, h.output, h.size, fun k hk => h.block k (by omega) (fun e => by have := hr k e.symm; omega)⟩

theorem Try.info5 : (Try.prog.info? 5).map (fun i => (i.zero, i.size, i.bytes)) = some (some (.int .u8 0), 1, 1) := by kernel_rfl
theorem Try.underlying22 : Try.prog.underlying 22 = some (.slice 5) := by kernel_rfl
theorem Try.underlying3 : Try.prog.underlying 3 = some (.int .i64) := by kernel_rfl

/-- An append whose run is known, at a plain region's list. -/
theorem wpList_append_eq {P : Program} {ops : Array Oper} {rest : List Oper} {o : Oper} {a : Act} {w : World} {Q : Exit → Act → World → Prop} (hgd : o.guard = none) (s x : Operand) (t u : TypeId)
    (ho : o.op = .call { callee := .builtin .append, args := #[s, x], argTypes := #[t, u] })
    {vs vx v : Value} {w' : World} (hs : a.eval s = vs) (hx : a.eval x = vx) (hrun : (Builtin.append_ #[t, u] o.type #[vs, vx]).run P w = .ok v w') (h : wpList P ops Q rest (a.put o.dst v) w') : wpList P ops Q (o :: rest) a w :=
  wpList_plain hgd fun _ hK => by
    unfold Oper.wp execOp
    simp only [ho, resolve, invoke, builtin, Sem.run_bind, Sem.run_pure, Result.andThen_ok, List.map_toArray, List.map_cons, List.map_nil, hs, hx, hrun]
    exact hK _ _ h

theorem lies_news {w : World} {a : Addr} {bs : List Int} (h : Lies w (some a) bs) : ∀ j u, (u8s bs)[j]? = some u → w.cell? (a.add j) = some u := fun j u hu => by
  obtain ⟨x, hx, rfl⟩ := u8s_back hu
  have h0 : 0 < bs.length := by
    rcases Nat.lt_or_ge j bs.length with h | h
    · omega
    · rw [List.getElem?_eq_none h] at hx; cases hx
  obtain ⟨b, off, e, _, hc⟩ := h.at_ h0
  injection e with e
  subst e
  have hadd : (⟨b, off, none⟩ : Addr).add j = ⟨b, off + j, none⟩ := by unfold Addr.add; split <;> simp_all
  rw [hadd]
  exact hc j x hx

/-- An append of bytes that lie somewhere, the whole within half of all addresses. -/
theorem bytes_append {B : Nat} {w : World} {v : Value} {us xs : List Int} (h : OwnB B w v us) {a : Addr} (hs : Lies w (some a) xs) (cap : Nat) (hB : B ≤ w.heap.size) (hn : us.length + xs.length ≤ 140737488355328) :
    ∃ v' W, (∀ ty, (Builtin.append_ #[22, 22] ty #[v, .slice (some a) xs.length cap]).run Try.prog w = .ok v' W) ∧ OwnB B W v' (us ++ xs) ∧ Below B w W := by
  obtain ⟨i0, hi, hz0, hz1, hz2⟩ := info_parts Try.info5
  have key := fun ty => run_append_own_at (P := Try.prog) w B 22 ty 5 i0 _ 1 1 Try.underlying22 hi hz0 hz1 hz2 rfl (by decide) v us.length (u8s us) h
    a xs.length cap (u8s xs) (by simp [u8s]) (lies_news hs) (u8s_one xs) (by simp only [maxLen]; omega) (by omega) hB
  obtain ⟨v', W, hr, h2, h3, _, _⟩ := key 0
  refine ⟨v', W, fun ty => hr, ?_, below_grown h3 hB (fun k e => (World.ownsRow.lt h k e).1)⟩
  unfold OwnB
  rw [u8s_append, List.length_append]
  exact h2

def ClonedB (bs : List Int) (w : World) (e : Ending) (w' : World) : Prop := ∃ v, e = .returned v ∧ OwnB w.heap.size w' v bs ∧ Below w.heap.size w w'
set_option maxHeartbeats 1000000 in
theorem clone_bytes {w : World} {bs : List Int} {A : Option Addr} {cap : Nat} (h : CameB w A cap bs) :
    Calls Try.prog 17 #[.slice A bs.length cap] w (ClonedB bs w) := by
  have hnil : ∀ (w : World) (a : Option Addr) (n c n' c' : Nat), (binOp .eql 22 (.slice a n c) (.slice none n' c')).run Try.prog w = .ok (.bool a.isNone) w := fun w a n c n' c' => Lib.run_eql_slice_nil w _ _ a n c n' c' Try.underlying22
  cases A with
  | none =>
    obtain ⟨rfl, rfl⟩ := h.nil rfl
    clear h
    go_enter Try.func17, Try.ntmps17
    go_wp2
    go_ret
    exact ⟨_, rfl, World.ownsRow_nil _ _ _ _, Below.refl _ _⟩
  | some a =>
    have hb0 : Below w.heap.size w (w.alloc (.cells #[] 5)) := (Below.refl _ _).alloc (Nat.le_refl _) _
    have hown : OwnB w.heap.size (w.alloc (.cells #[] 5)) (.slice (some ⟨w.heap.size, 0, none⟩) 0 0) [] := World.ownsRow_made w #[] 0 (Nat.le_refl _) (by simp only [maxLen]; omega) rfl
    obtain ⟨v, W2, r2, h1, h2⟩ := bytes_append hown (h.lies.below hb0) cap hb0.size (by have := h.size; simp; omega)
    rw [List.nil_append] at h1
    have HX := Lib.hid (And.intro h1 (hb0.trans h2))
    clear h1 h2 h hown hb0
    go_enter Try.func17, Try.ntmps17
    go_wp2_with (at_builtin; refine wpList_append_eq rfl (.tmp 5) (.tmp 6) 22 22 rfl rfl rfl (r2 _) ?_)
    go_ret
    exact ⟨_, rfl, HX.out⟩

/-! ### Grow of nil, Concat -/
/-- There is room for N bytes in all. -/
def Roomy (v : Value) (N : Nat) : Prop := N = 0 ∨ ∃ g n cap, v = .slice (some ⟨g, 0, none⟩) n cap ∧ N ≤ cap

theorem grow_cells {w : World} {n : Nat} (h0 : 0 < n) (hn : n ≤ 281474976710656) :
    ∃ cap W, (∀ ty, (Builtin.append_ #[22, 3] ty #[.slice none 0 0, .int .i64 (n : Int)]).run Try.prog w = .ok (.slice (some ⟨w.heap.size, 0, none⟩) n cap) W) ∧ OwnB w.heap.size W (.slice (some ⟨w.heap.size, 0, none⟩) 0 cap) [] ∧ n ≤ cap ∧ Below w.heap.size w W := by
  obtain ⟨i0, hi, hz0, hz1, hz2⟩ := info_parts Try.info5
  have hr := fun ty => Lib.run_append_nil_zeros (P := Try.prog) w 22 3 ty 5 i0 _ .i64 .i64 Try.underlying22 Try.underlying3 hi hz0 n h0 (by omega) (by omega) (by rw [hz2]; omega)
  have hG := grownCap_ge w n 0 5
  have hG2 := grownCap_le_maxLen w n 0 5 (by simp only [maxLen]; omega)
  refine ⟨_, _, hr, ?_, hG, ((Below.refl _ w).drew).alloc (Nat.le_refl _) _⟩
  refine ⟨rfl, .inr ⟨w.heap.size, _, _, rfl, Nat.le_refl _, heap_alloc_new w.drew _, Nat.zero_le _, hG2, ?_, ?_⟩⟩
  · simp [Builtin.zeroCells, Value.cells]
    omega
  · simp [u8s]

set_option maxHeartbeats 1000000 in
theorem grow_nil {w : World} {n : Nat} (hn : n ≤ 281474976710656) :
    Calls Try.prog 20 #[.slice none 0 0, .int .i64 (n : Int)] w fun e w' => ∃ v, e = .returned v ∧ OwnB w.heap.size w' v [] ∧ Roomy v n ∧ Below w.heap.size w w' := by
  by_cases h0 : n = 0
  · subst h0
    go_enter Try.func20, Try.ntmps20
    go_wp2
    go_ret
    exact ⟨_, rfl, World.ownsRow_nil _ _ _ _, .inl rfl, Below.refl _ _⟩
  · obtain ⟨cap, W, hr, h1, hc, h2⟩ := grow_cells (w := w) (n := n) (by omega) hn
    have HX := Lib.hid (And.intro h1 (And.intro (show Roomy (.slice (some ⟨w.heap.size, 0, none⟩) 0 cap) n from .inr ⟨_, _, _, rfl, hc⟩) h2))
    have i1 : ¬ ((n : Int) < 0) := by omega
    have i2 : (0 : Int) < (n : Int) := by omega
    clear h1 h2 hc
    go_enter Try.func20, Try.ntmps20
    go_wp2_with (at_builtin; refine wpList_append_eq rfl (.tmp 20) (.tmp 21) 22 3 rfl rfl rfl (hr _) ?_)
    go_ret
    exact ⟨_, rfl, HX.out⟩

theorem append_empty {B : Nat} {w : World} {v : Value} {us : List Int} (h : OwnB B w v us) (ty : TypeId) : (Builtin.append_ #[22, 22] ty #[v, .slice none 0 0]).run Try.prog w = .ok v w := by
  obtain ⟨i0, hi, hz0, hz1, hz2⟩ := info_parts Try.info5
  rcases h.2 with ⟨rfl, h0⟩ | ⟨g, cap, cur, rfl, _, _, hc, _⟩
  · simp [Builtin.append_, run_underlying Try.underlying22, sizeOf, typeInfo, hi, Builtin.lenOf, Builtin.firstCells]
  · simp [Builtin.append_, run_underlying Try.underlying22, sizeOf, typeInfo, hi, hc, Builtin.lenOf, Builtin.firstCells, storeCells]
/-- An append of bytes for which there is room. -/
theorem cat_step {B N cap : Nat} {w : World} {v : Value} {us xs : List Int} {A : Option Addr} (h : OwnB B w v us) (hR : Roomy v N) (hs : CameB w A cap xs) (hB : B ≤ w.heap.size) (hn : us.length + xs.length ≤ N) :
    ∃ v' W, (∀ ty, (Builtin.append_ #[22, 22] ty #[v, .slice A xs.length cap]).run Try.prog w = .ok v' W) ∧ OwnB B W v' (us ++ xs) ∧ Roomy v' N ∧ Below B w W := by
  cases A with
  | none =>
    obtain ⟨rfl, rfl⟩ := hs.nil rfl
    exact ⟨v, w, append_empty h, by rw [List.append_nil]; exact h, hR, Below.refl _ _⟩
  | some a =>
    rcases hR with rfl | ⟨g, m, c, rfl, hN⟩
    · obtain ⟨v', W, hr, h2, h3⟩ := bytes_append h hs.lies cap hB (by omega)
      exact ⟨v', W, hr, h2, .inl rfl, h3⟩
    · obtain ⟨i0, hi, hz0, hz1, hz2⟩ := info_parts Try.info5
      rcases h.2 with ⟨e, _⟩ | ⟨g', c', cur, e, hBg, hg, hnc, hcm, hcs, ht⟩
      · cases e
      · injection e with e1 e2 e3
        injection e1 with e1
        injection e1 with e1
        subst e1 e2 e3
        have hl : (u8s xs).length = xs.length * i0.size := by rw [hz1, u8s_length, Nat.mul_one]
        have hr := fun ty => run_append_room (P := Try.prog) w 22 ty 5 i0 Try.underlying22 hi g us.length c cur hg a xs.length cap (u8s xs) hl (lies_news hs.lies) (u8s_one xs) (by omega) (by rw [hz1, u8s_length]; omega)
        refine ⟨_, _, hr, ?_, .inr ⟨g, _, c, rfl, hN⟩, ⟨rfl, rfl, rfl, by simp, fun k hk => setRow_other w g k _ (by omega)⟩⟩
        unfold OwnB
        rw [u8s_append, List.length_append]
        refine ⟨by simp [u8s], .inr ⟨g, c, _, rfl, hBg, setRow_heap w g cur _ _ _ hg, by omega, hcm, ?_, ?_⟩⟩
        · simp only [List.size_toArray, List.length_append, List.length_take, List.length_drop, Array.length_toList, u8s_length, hz1]
          omega
        · rw [hz1, ht]
          have hl2 : (us.length + xs.length) * 1 = (u8s us ++ u8s xs).length := by simp [u8s]
          rw [hl2]
          exact List.take_left
end Go.Proofs.Ytalliljmkijeiaa
