/- Slices of bytes: an append. -/
import Derived.Test.YtmigfemkbdehbaaSm3a
namespace Go.Proofs.Ytmigfemkbdehbaa
open Go.RowKit Go.Maps

def OwnB (B : Nat) (w : World) (v : Value) (bs : List Int) : Prop := w.ownsRow B 5 1 v bs.length (u8s bs)
theorem OwnB.form {B : Nat} {w : World} {v : Value} {bs : List Int} (h : OwnB B w v bs) (hb : Bytes bs) (hl : bs.length ≤ 281474976710656) :
    ∃ A cap, v = .slice A bs.length cap ∧ Lies w A bs := by
  rcases h.2 with ⟨rfl, h0⟩ | ⟨g, cap, cur, rfl, hB, hg, hn, _, hs, ht⟩
  · exact ⟨none, 0, by rw [h0], fun h => by omega, hb, hl⟩
  · refine ⟨_, cap, rfl, fun _ => ⟨g, 0, rfl, (World.ownsRow.lt h g rfl).2, fun j x hx => ?_⟩, hb, hl⟩
    have hj : j < bs.length := by
      rcases Nat.lt_or_ge j bs.length with h | h
      · exact h
      · rw [List.getElem?_eq_none h] at hx; cases hx
    rw [Nat.zero_add, cell_of_row w g _ cur _ _ hg, ← u8s_at hx, ← ht, List.getElem?_take_of_lt (by omega), Array.getElem?_toList]
theorem OwnB.below {B : Nat} {w w' : World} {v : Value} {bs : List Int} (h : OwnB B w v bs) (hb : Below w.heap.size w w') : OwnB B w' v bs := by
  refine ⟨h.1, ?_⟩
  rcases h.2 with hn | ⟨g, cap, cur, rfl, hB, hgg, rest⟩
  · exact .inl hn
  · exact .inr ⟨g, cap, cur, rfl, hB, (hb.block g (World.ownsRow.lt h g rfl).2).trans hgg, rest⟩
theorem below_grown {B : Nat} {a b : World} {r : Option Nat} (h : a.grownBy b r) (hB : B ≤ a.heap.size) (hr : ∀ k, r = some k → B ≤ k) : Below B a b :=
  ⟨h.os, h.tape, h.output, h.size, fun k hk => h.block k (by omega) (fun e => by have := hr k e.symm; omega)⟩

theorem info_u8 : (Try.prog.info? 5).map (fun i => (i.zero, i.size, i.bytes)) = some (some (.int .u8 0), 1, 1) := by kernel_rfl
theorem under_u8s : Try.prog.underlying 25 = some (.slice 5) := by kernel_rfl
theorem under_int : Try.prog.underlying 3 = some (.int .i64) := by kernel_rfl

/-- An append whose run is known, at a plain region's list. -/
theorem wpList_append_eq {P : Program} {ops : Array Oper} {rest : List Oper} {o : Oper} {a : Act} {w : World} {Q : Exit → Act → World → Prop} (hgd : o.guard = none) (s x : Operand) (t u : TypeId)
    (ho : o.op = .call { callee := .builtin .append, args := #[s, x], argTypes := #[t, u] })
    {vs vx v : Value} {w' : World} (hs : a.eval s = vs) (hx : a.eval x = vx) (hrun : (Builtin.append_ #[t, u] o.type #[vs, vx]).run P w = .ok v w') (h : wpList P ops Q rest (a.put o.dst v) w') : wpList P ops Q (o :: rest) a w :=
  wpList_plain hgd fun _ hK => by
    unfold Oper.wp execOp
    simp only [ho, resolve, invoke, builtin, Sem.run_bind, Sem.run_pure, Result.andThen_ok, List.map_toArray, List.map_cons, List.map_nil, hs, hx, hrun]
    exact hK _ _ h

theorem lies_news {w : World} {a : Addr} {bs : List Int} (h : Lies w (some a) bs) : ∀ j u, (u8s bs)[j]? = some u → w.cell? (a.add j) = some u := fun j u hu => by
  obtain ⟨x, hx, rfl⟩ := u8s_back hu
  have h0 : 0 < bs.length := by
    rcases Nat.lt_or_ge j bs.length with h | h
    · omega
    · rw [List.getElem?_eq_none h] at hx; cases hx
  obtain ⟨b, off, e, _, hc⟩ := h.at_ h0
  injection e with e
  subst e
  have hadd : (⟨b, off, none⟩ : Addr).add j = ⟨b, off + j, none⟩ := by unfold Addr.add; split <;> simp_all
  rw [hadd]
  exact hc j x hx

/-- An append of bytes that lie somewhere, the whole within half of all addresses. -/
theorem bytes_append {B : Nat} {w : World} {v : Value} {us xs : List Int} (h : OwnB B w v us) {a : Addr} (hs : Lies w (some a) xs) (cap : Nat) (hB : B ≤ w.heap.size) (hn : us.length + xs.length ≤ 140737488355328) :
    ∃ v' W, (∀ ty, (Builtin.append_ #[25, 25] ty #[v, .slice (some a) xs.length cap]).run Try.prog w = .ok v' W) ∧ OwnB B W v' (us ++ xs) ∧ Below B w W := by
  obtain ⟨i0, hi, hz0, hz1, hz2⟩ := info_parts info_u8
  have key := fun ty => run_append_own_at (P := Try.prog) w B 25 ty 5 i0 _ 1 1 under_u8s hi hz0 hz1 hz2 rfl (by decide) v us.length (u8s us) h
    a xs.length cap (u8s xs) (by simp [u8s]) (lies_news hs) (u8s_one xs) (by simp only [maxLen]; omega) (by omega) hB
  obtain ⟨v', W, hr, h2, h3, _, _⟩ := key 0
  refine ⟨v', W, fun ty => hr, ?_, below_grown h3 hB (fun k e => (World.ownsRow.lt h k e).1)⟩
  unfold OwnB
  rw [u8s_append, List.length_append]
  exact h2

/-- There is room for N bytes in all. -/
def Roomy (v : Value) (N : Nat) : Prop := N = 0 ∨ ∃ g n cap, v = .slice (some ⟨g, 0, none⟩) n cap ∧ N ≤ cap

theorem append_empty {B : Nat} {w : World} {v : Value} {us : List Int} (h : OwnB B w v us) (ty : TypeId) : (Builtin.append_ #[25, 25] ty #[v, .slice none 0 0]).run Try.prog w = .ok v w := by
  obtain ⟨i0, hi, hz0, hz1, hz2⟩ := info_parts info_u8
  rcases h.2 with ⟨rfl, h0⟩ | ⟨g, cap, cur, rfl, _, _, hc, _⟩
  · simp [Builtin.append_, run_underlying under_u8s, sizeOf, typeInfo, hi, Builtin.lenOf, Builtin.firstCells]
  · simp [Builtin.append_, run_underlying under_u8s, sizeOf, typeInfo, hi, hc, Builtin.lenOf, Builtin.firstCells, storeCells]
/-- An append of bytes for which there is room. -/
theorem cat_step {B N cap : Nat} {w : World} {v : Value} {us xs : List Int} {A : Option Addr} (h : OwnB B w v us) (hR : Roomy v N) (hs : CameB w A cap xs) (hB : B ≤ w.heap.size) (hn : us.length + xs.length ≤ N) :
    ∃ v' W, (∀ ty, (Builtin.append_ #[25, 25] ty #[v, .slice A xs.length cap]).run Try.prog w = .ok v' W) ∧ OwnB B W v' (us ++ xs) ∧ Roomy v' N ∧ Below B w W := by
  cases A with
  | none =>
    obtain ⟨rfl, rfl⟩ := hs.nil rfl
    exact ⟨v, w, append_empty h, by rw [List.append_nil]; exact h, hR, Below.refl _ _⟩
  | some a =>
    rcases hR with rfl | ⟨g, m, c, rfl, hN⟩
    · obtain ⟨v', W, hr, h2, h3⟩ := bytes_append h hs.lies cap hB (by omega)
      exact ⟨v', W, hr, h2, .inl rfl, h3⟩
    · obtain ⟨i0, hi, hz0, hz1, hz2⟩ := info_parts info_u8
      rcases h.2 with ⟨e, _⟩ | ⟨g', c', cur, e, hBg, hg, hnc, hcm, hcs, ht⟩
      · cases e
      · injection e with e1 e2 e3
        injection e1 with e1
        injection e1 with e1
        subst e1 e2 e3
        have hl : (u8s xs).length = xs.length * i0.size := by rw [hz1, u8s_length, Nat.mul_one]
        have hr := fun ty => run_append_room (P := Try.prog) w 25 ty 5 i0 under_u8s hi g us.length c cur hg a xs.length cap (u8s xs) hl (lies_news hs.lies) (u8s_one xs) (by omega) (by rw [hz1, u8s_length]; omega)
        refine ⟨_, _, hr, ?_, .inr ⟨g, _, c, rfl, hN⟩, ⟨rfl, rfl, rfl, by simp, fun k hk => setRow_other w g k _ (by omega)⟩⟩
        unfold OwnB
        rw [u8s_append, List.length_append]
        refine ⟨by simp [u8s], .inr ⟨g, c, _, rfl, hBg, setRow_heap w g cur _ _ _ hg, by omega, hcm, ?_, ?_⟩⟩
        · simp only [List.size_toArray, List.length_append, List.length_take, List.length_drop, Array.length_toList, u8s_length, hz1]
          omega
        · rw [hz1, ht]
          have hl2 : (us.length + xs.length) * 1 = (u8s us ++ u8s xs).length := by simp [u8s]
          rw [hl2]
          exact List.take_left
end Go.Proofs.Ytmigfemkbdehbaa
