/- Slices of rules of the call's own; rules.Prune; slices.Equal of equal rows. -/
import Derived.Test.YtandfbepenjbhaaRu4
import Derived.Deep.Onto
import Derived.Laws.StructEq
namespace Go.Proofs.Ytandfbepenjbhaa
open Go.RowKit Go.Maps

def Ru.zero : Ru := ⟨⟨0, 0, 0, 0⟩, ⟨0, 0, 0, 0⟩, 0, 0, 0, 0, 0, 0⟩
theorem one_ru (r : Ru) : (r.cells.toArray.all fun x => x.oneCell') = true := by simp [Ru.cells, Value.oneCell']
theorem ruAt_new (w : World) (r : Ru) : RuAt (w.alloc (.cells r.cells.toArray 32)) w.heap.size r := heap_alloc_new w _
theorem RuAt.stored {w : World} {q : Nat} {r : Ru} (h : RuAt w q r) (r' : Ru) : RuAt (w.setRow q r'.cells.toArray) q r' := setRow_heap w q _ _ _ _ h
theorem wpList_store_ru {ops : Array Oper} {rest : List Oper} {o : Oper} {a : Act} {w : World} {Q : Exit → Act → World → Prop} (hgd : o.guard = none) (x y : Operand) (ho : o.op = .store 32 x y)
    (g : Nat) (r r0 : Ru) (hx : a.eval x = .pointer (some ⟨g, 0, none⟩)) (hy : a.eval y = .agg r.cells.toArray) (hg : Hid (RuAt w g r0))
    (k : wpList Try.prog ops Q rest (a.put o.dst undef) (w.setRow g r.cells.toArray)) : wpList Try.prog ops Q (o :: rest) a w :=
  wpList_store_row hgd 32 x y ho g r.cells.toArray hx hy 32 r0.cells.toArray hg.out info_rule rfl (one_ru r) k

/-! ### rows of one's own -/
def ruCells (rs : List Ru) : List Value := rs.flatMap Ru.cells
theorem ruCells_length (rs : List Ru) : (ruCells rs).length = rs.length * 14 := flat_length ru_len rs
theorem ruCells_append (a b : List Ru) : ruCells (a ++ b) = ruCells a ++ ruCells b := by simp [ruCells]
theorem ru_one (rs : List Ru) : ∀ u ∈ ruCells rs, u.oneCell' = true := by
  intro u hu
  simp only [ruCells, List.mem_flatMap, Ru.cells, List.mem_cons, List.not_mem_nil, or_false] at hu
  obtain ⟨o, _, h⟩ := hu
  rcases h with rfl | rfl | rfl | rfl | rfl | rfl | rfl | rfl | rfl | rfl | rfl | rfl | rfl | rfl <;> rfl
theorem info_ru : (Try.prog.info? 32).map (fun i => (i.zero, i.size, i.bytes)) = some (some (.agg #[.int .u8 0, .int .u8 0, .int .u8 0, .int .u8 0, .int .u8 0, .int .u8 0, .int .u8 0, .int .u8 0, .int .i64 0, .int .i64 0, .int .i64 0, .int .i64 0, .int .i64 0, .int .i64 0]), 14, 56) := by kernel_rfl
theorem under_rus : Try.prog.underlying 22 = some (.slice 32) := by kernel_rfl
theorem row_rus {w : World} {g : Nat} {cur : Array Value} (hg : w.heap[g]? = some (.cells cur 32 (0, 0))) {rs : List Ru} (ht : cur.toList.take (rs.length * 14) = ruCells rs) : ∀ j r, rs[j]? = some r → RuIn w g (0 + j * 14) r := fun j r hr i hi => by
  have hj : j < rs.length := by
    rcases Nat.lt_or_ge j rs.length with h | h
    · exact h
    · rw [List.getElem?_eq_none h] at hr; cases hr
  rw [cell_of_row w g _ cur _ _ hg, ← flat_at ru_len hr i hi]
  have : (cur.toList.take (rs.length * 14))[j * 14 + i]? = (rs.flatMap Ru.cells)[j * 14 + i]? := by rw [ht]; rfl
  rw [← this, List.getElem?_take_of_lt (by omega), Array.getElem?_toList, Nat.zero_add]
def OwnRus (B : Nat) (w : World) (v : Value) (rs : List Ru) : Prop := w.ownsRow B 32 14 v rs.length (ruCells rs)
theorem OwnRus.form {B : Nat} {w : World} {v : Value} {rs : List Ru} (h : OwnRus B w v rs) (hok : ∀ r ∈ rs, r.Ok) (hl : rs.length * 56 ≤ 281474976710656) : ∃ A cap, v = .slice A rs.length cap ∧ RusIn w A rs ∧ rs.length ≤ cap := by
  rcases h.2 with ⟨rfl, h0⟩ | ⟨g, cap, cur, rfl, hB, hg, hn, _, hs, ht⟩
  · exact ⟨none, 0, by rw [h0], ⟨fun h => by omega, hok, hl⟩, by omega⟩
  · exact ⟨_, cap, rfl, ⟨fun _ => ⟨g, 0, rfl, (World.ownsRow.lt h g rfl).2, row_rus hg ht⟩, hok, hl⟩, hn⟩
theorem OwnRus.below {B : Nat} {w w' : World} {v : Value} {rs : List Ru} (h : OwnRus B w v rs) (hb : Below w.heap.size w w') : OwnRus B w' v rs := by
  refine ⟨h.1, ?_⟩
  rcases h.2 with hn | ⟨g, cap, cur, rfl, hB, hgg, rest⟩
  · exact .inl hn
  · exact .inr ⟨g, cap, cur, rfl, hB, (hb.block g (World.ownsRow.lt h g rfl).2).trans hgg, rest⟩
/-- One rule appended, which lies in a block of its own. -/
theorem rus_append {B : Nat} {w : World} {v : Value} {rs : List Ru} {r : Ru} (h : OwnRus B w v rs) (hB : B ≤ w.heap.size) (hn : rs.length * 56 + 4096 ≤ 140737488355328) {bl : Nat} (hbl : RuAt w bl r) :
    ∃ g cap W, (∀ ty, (Builtin.append_ #[22, 22] ty #[v, .slice (some ⟨bl, 0, none⟩) 1 1]).run Try.prog w = .ok (.slice (some ⟨g, 0, none⟩) (rs.length + 1) cap) W) ∧ OwnRus B W (.slice (some ⟨g, 0, none⟩) (rs.length + 1) cap) (rs ++ [r]) ∧ Below B w W := by
  obtain ⟨i0, hi, hz0, hz1, hz2⟩ := info_parts info_ru
  have key := fun ty => run_append_lies (P := Try.prog) w 22 ty B 32 i0 _ 14 56 under_rus hi hz0 hz1 hz2 rfl (by decide) v rs.length (ruCells rs) h
    ⟨bl, 0, none⟩ 1 1 (ruCells [r]) (ruCells_length [r]) (by have := World.news_of_block hbl; simpa [ruCells] using this) (ru_one [r]) (by decide) (by simp only [maxLen]; omega) (by omega) hB _ rfl
  obtain ⟨g, cap, W, hr, h2, h3, _, _⟩ := key 0
  refine ⟨g, cap, W, fun ty => hr, ?_, ⟨h3.os, h3.tape, h3.output, h3.size, fun k hk => h3.block k (by omega) (fun e => by have := (World.ownsRow.lt h k e.symm).1; omega)⟩⟩
  unfold OwnRus
  rw [List.length_append, ruCells_append]
  exact h2

/-! ### slices.Equal -/
theorem size_u8' (w : World) : (sizeOf 5).run Try.prog w = .ok 1 w := by
  have h : (Try.prog.info? 5).map (·.size) = some 1 := by kernel_rfl
  obtain ⟨i, h1, h2⟩ := Option.map_eq_some_iff.1 h
  simp [sizeOf, typeInfo, h1, h2]
theorem arr_equal (w : World) (d : Nat) (a b c e : Int) : (Op.equalIn (d + 2) 23 (.agg #[.int .u8 a, .int .u8 b, .int .u8 c, .int .u8 e]) (.agg #[.int .u8 a, .int .u8 b, .int .u8 c, .int .u8 e])).run Try.prog w = .ok true w := by
  rw [Op.equalIn]
  have he : ∀ x : Int, (Op.equalIn (d + 1) 5 (.int .u8 x) (.int .u8 x)).run Try.prog w = .ok true w := fun x => by
    rw [run_equalIn_int w d 5 .u8 .u8 _ _ Try.underlying5]
    simp
  simp only [Sem.run_bind, run_underlying Try.underlying23, Result.andThen_ok, size_u8', Std.Legacy.Range.forIn_eq_forIn_range', Std.Legacy.Range.size, Nat.sub_zero, Nat.add_sub_cancel, Nat.div_one]
  simp [List.range', part, isAgg, run_underlying Try.underlying5, he]
theorem part_arr (w : World) (xs : Array Value) (off : Nat) : (part 23 xs off).run Try.prog w = .ok (.agg (xs.extract off (off + 4))) w := by
  have h : (Try.prog.info? 23).map (·.size) = some 4 := by kernel_rfl
  obtain ⟨i, hi, hs⟩ := Option.map_eq_some_iff.1 h
  simp [part, isAgg, run_underlying Try.underlying23, sizeOf, typeInfo, hi, hs]
theorem part_int (w : World) (xs : Array Value) (off : Nat) (v : Value) (h : xs[off]? = some v) : (part 3 xs off).run Try.prog w = .ok v w := by
  simp [part, isAgg, run_underlying Try.underlying3, h]
theorem int_equal (w : World) (d : Nat) (x : Int) : (Op.equalIn (d + 1) 3 (.int .i64 x) (.int .i64 x)).run Try.prog w = .ok true w := by
  rw [run_equalIn_int w d 3 .i64 .i64 _ _ Try.underlying3]
  simp
set_option maxRecDepth 100000 in
theorem rule_equal (w : World) (r : Ru) : (Op.equalIn 10000 32 (.agg r.cells.toArray) (.agg r.cells.toArray)).run Try.prog w = .ok true w := by
  have hf : ∃ f0 f1 f2 f3 f4 f5 f6 f7, Try.prog.fieldsOf 32 = #[f0, f1, f2, f3, f4, f5, f6, f7] ∧ Try.prog.underlying 32 = some (.struct #[f0, f1, f2, f3, f4, f5, f6, f7]) ∧
      (f0.type, f0.offset) = (23, 0) ∧ (f1.type, f1.offset) = (23, 4) ∧ (f2.type, f2.offset) = (3, 8) ∧ (f3.type, f3.offset) = (3, 9) ∧ (f4.type, f4.offset) = (3, 10) ∧ (f5.type, f5.offset) = (3, 11) ∧ (f6.type, f6.offset) = (3, 12) ∧ (f7.type, f7.offset) = (3, 13) :=
    ⟨_, _, _, _, _, _, _, _, by rw [Program.fieldsOf, Try.underlying32], Try.underlying32, rfl, rfl, rfl, rfl, rfl, rfl, rfl, rfl⟩
  obtain ⟨f0, f1, f2, f3, f4, f5, f6, f7, e, hu, e0, e1, e2, e3, e4, e5, e6, e7⟩ := hf
  rw [show (10000 : Nat) = 9999 + 1 from rfl, run_equalIn_struct w 9999 32 _ _ (by rw [e]; exact hu) (by kernel_rfl), e]
  simp only [Prod.mk.injEq] at e0 e1 e2 e3 e4 e5 e6 e7
  have ha := fun (a b c d : Int) => arr_equal w 9997 a b c d
  have hi := fun (x : Int) => int_equal w 9998 x
  have q8 := part_int w r.cells.toArray 8 (.int .i64 r.sb) rfl
  have q9 := part_int w r.cells.toArray 9 (.int .i64 r.db) rfl
  have q10 := part_int w r.cells.toArray 10 (.int .i64 r.pr) rfl
  have q11 := part_int w r.cells.toArray 11 (.int .i64 r.lo) rfl
  have q12 := part_int w r.cells.toArray 12 (.int .i64 r.hi) rfl
  have q13 := part_int w r.cells.toArray 13 (.int .i64 r.cl) rfl
  have q0 : (part 23 r.cells.toArray 0).run Try.prog w = .ok (.agg #[.int .u8 r.src.a0, .int .u8 r.src.a1, .int .u8 r.src.a2, .int .u8 r.src.a3]) w := by rw [part_arr]; rfl
  have q4 : (part 23 r.cells.toArray 4).run Try.prog w = .ok (.agg #[.int .u8 r.dst.a0, .int .u8 r.dst.a1, .int .u8 r.dst.a2, .int .u8 r.dst.a3]) w := by rw [part_arr]; rfl
  simp only [Nat.reduceAdd] at ha hi
  simp only [Op.eqFields, e0.1, e0.2, e1.1, e1.2, e2.1, e2.2, e3.1, e3.2, e4.1, e4.2, e5.1, e5.2, e6.1, e6.2, e7.1, e7.2]
  repeat' split
  all_goals simp [q0, q4, q8, q9, q10, q11, q12, q13, ha, hi]
theorem neq_rule (w : World) (r : Ru) : (binOp .neq 32 (.agg r.cells.toArray) (.agg r.cells.toArray)).run Try.prog w = .ok (.bool false) w := by
  rw [run_neq_struct, rule_equal]
  rfl
theorem guard_rule (w : World) (x y : Operand) (u v : Ru) : (eqGuard .neq 32 x y (.agg u.cells.toArray) (.agg v.cells.toArray)).run Try.prog w = .ok () w := run_eqGuard_agg w .neq 32 x y _ _ (by kernel_rfl)
theorem exec_neq {o : Oper} {a : Act} {w : World} (x y : Operand) (T : TypeId) (ho : o.op = .binOp .neq T x y T) (u v : Value) (hx : a.eval x = u) (hy : a.eval y = v) (he : (eqGuard .neq T x y u v).run Try.prog w = .ok () w) (hr : (binOp .neq T u v).run Try.prog w = .ok (.bool false) w) :
    (execOp a.eval o).run Try.prog w = .ok (.value (.bool false)) w := by
  unfold execOp
  simp only [ho, hx, hy, Sem.run_bind, he, hr, Sem.run_pure, Result.andThen_ok]

set_option maxRecDepth 100000 in
set_option maxHeartbeats 4000000 in
theorem equal_rus {w : World} {A1 A2 : Option Addr} {rs : List Ru} (h1 : RusIn w A1 rs) (h2 : RusIn w A2 rs) (c1 c2 : Nat) :
    Calls Try.prog 16 #[.slice A1 rs.length c1, .slice A2 rs.length c2] w fun e w' => e = .returned (.bool true) ∧ Below w.heap.size w w' := by
  have hlen := h1.len
  have H1 := Lib.hid h1
  have H2 := Lib.hid h2
  obtain ⟨n, hn⟩ : ∃ n, rs.length = n := ⟨_, rfl⟩
  have HN := Lib.hid hn
  rw [hn] at hlen ⊢
  clear h1 h2 hn
  go_enter Try.func16, Try.ntmps16
  go_wp2_with fail
  go_loopg [13] n (fun k c wr => ∃ i : Nat, c = .int .i64 (i : Int) ∧ i + k = n ∧ Hid (Below w.heap.size w wr))
  case atStart => exact ⟨0, rfl, by omega, Lib.hid (Below.refl _ _)⟩
  case round =>
    obtain ⟨i, rfl, hik, HI⟩ := hrel
    cases gk with
    | zero =>
      obtain rfl : i = n := by omega
      go_wp2_with fail
      go_ret
      exact ⟨rfl, HI.out⟩
    | succ k =>
      have hi : i < n := by omega
      have i1 : (i : Int) < (n : Int) := by omega
      obtain ⟨b1, o1, r, rfl, hr, hat1, _, hb1⟩ := (H1.out.below HI.out).next (i := i) (by have := HN.out; omega)
      obtain ⟨b2, o2, r', rfl, hr', hat2, _, hb2⟩ := (H2.out.below HI.out).next (i := i) (by have := HN.out; omega)
      rw [hr] at hr'
      injection hr' with hr'
      subst hr'
      have HS : Hid (∀ W, Below wr.heap.size wr W → (fun W => Hid (RuIn W b1 (o1 + i * 14) r) ∧ Hid (RuIn W b2 (o2 + i * 14) r)) W) := Lib.hid (fun W hW => ⟨Lib.hid (hat1.below hW hb1), Lib.hid (hat2.below hW hb2)⟩)
      clear hr hat1 hat2 hb1 hb2 H1 H2
      go_upto_region 6 with fail
      refine wp_region_held_drew (S := (fun W => Hid (RuIn W b1 (o1 + i * 14) r) ∧ Hid (RuIn W b2 (o2 + i * 14) r))) (by kernel_rfl) (HS.out _ (Below.refl _ _).drew) (fun hHeld => ?_)
      obtain ⟨w0, hw0⟩ : ∃ W0, W0 = wr.drew := ⟨_, rfl⟩
      have HB0 : Hid (Below wr.heap.size wr w0) := Lib.hid (by rw [hw0]; exact (Below.refl _ _).drew)
      rw [← hw0] at hHeld ⊢
      clear hw0
      refine wpAnyH_take (i := 0) (v := ?_) (by simp only [List.getElem?_toArray, List.getElem?_cons_zero] <;> rfl) (by kernel_rfl) (by kernel_rfl) (by kernel_rfl) (by exact fun _ _ _ h => h) (Or.inl ⟨by rfl, ?_⟩) hHeld ?_
      rotate_left
      · intro w hSw; (try dsimp only at hSw); go_simp; (try with_reducible rfl)
      (try simp only [Act.put, List.setIfInBounds_toArray, List.set_cons_zero, List.set_cons_succ])
      refine wpAnyH_take (i := 1) (v := ?_) (by simp only [List.getElem?_toArray, List.getElem?_cons_succ, List.getElem?_cons_zero] <;> rfl) (by kernel_rfl) (by kernel_rfl) (by kernel_rfl) (by exact fun _ _ _ h => h) (Or.inl ⟨by rfl, ?_⟩) hHeld ?_
      rotate_left
      · intro w hSw; (try dsimp only at hSw); go_simp; (try with_reducible rfl)
      (try simp only [Act.put, List.setIfInBounds_toArray, List.set_cons_zero, List.set_cons_succ])
      refine wpAnyH_take (i := 2) (v := ?_) (by simp only [List.getElem?_toArray, List.getElem?_cons_succ, List.getElem?_cons_zero] <;> rfl) (by kernel_rfl) (by kernel_rfl) (by kernel_rfl) (by exact fun _ _ _ h => h) (Or.inl ⟨by rfl, ?_⟩) hHeld ?_
      rotate_left
      · intro w hSw; (try dsimp only at hSw); go_simp; (try with_reducible rfl)
      (try simp only [Act.put, List.setIfInBounds_toArray, List.set_cons_zero, List.set_cons_succ])
      refine wpAnyH_take (i := 3) (v := ?_) (by simp only [List.getElem?_toArray, List.getElem?_cons_succ, List.getElem?_cons_zero] <;> rfl) (by kernel_rfl) (by kernel_rfl) (by kernel_rfl) (by exact fun _ _ _ h => h) (Or.inl ⟨by rfl, ?_⟩) hHeld ?_
      rotate_left
      · intro V hV; refine exec_load_in (.tmp 18) ?_ b1 (o1 + i * 14) r ?_ hV.1 <;> rfl
      (try simp only [Act.put, List.setIfInBounds_toArray, List.set_cons_zero, List.set_cons_succ])
      refine wpAnyH_take (i := 4) (v := ?_) (by simp only [List.getElem?_toArray, List.getElem?_cons_succ, List.getElem?_cons_zero] <;> rfl) (by kernel_rfl) (by kernel_rfl) (by kernel_rfl) (by exact fun _ _ _ h => h) (Or.inl ⟨by rfl, ?_⟩) hHeld ?_
      rotate_left
      · intro w hSw; (try dsimp only at hSw); go_simp; (try with_reducible rfl)
      (try simp only [Act.put, List.setIfInBounds_toArray, List.set_cons_zero, List.set_cons_succ])
      refine wpAnyH_take (i := 5) (v := ?_) (by simp only [List.getElem?_toArray, List.getElem?_cons_succ, List.getElem?_cons_zero] <;> rfl) (by kernel_rfl) (by kernel_rfl) (by kernel_rfl) (by exact fun _ _ _ h => h) (Or.inl ⟨by rfl, ?_⟩) hHeld ?_
      rotate_left
      · intro w hSw; (try dsimp only at hSw); go_simp; (try with_reducible rfl)
      (try simp only [Act.put, List.setIfInBounds_toArray, List.set_cons_zero, List.set_cons_succ])
      refine wpAnyH_take (i := 6) (v := ?_) (by simp only [List.getElem?_toArray, List.getElem?_cons_succ, List.getElem?_cons_zero] <;> rfl) (by kernel_rfl) (by kernel_rfl) (by kernel_rfl) (by exact fun _ _ _ h => h) (Or.inl ⟨by rfl, ?_⟩) hHeld ?_
      rotate_left
      · intro w hSw; (try dsimp only at hSw); go_simp; (try with_reducible rfl)
      (try simp only [Act.put, List.setIfInBounds_toArray, List.set_cons_zero, List.set_cons_succ])
      refine wpAnyH_take (i := 7) (v := ?_) (by simp only [List.getElem?_toArray, List.getElem?_cons_succ, List.getElem?_cons_zero] <;> rfl) (by kernel_rfl) (by kernel_rfl) (by kernel_rfl) (by exact fun _ _ _ h => h) (Or.inl ⟨by rfl, ?_⟩) hHeld ?_
      rotate_left
      · intro V hV; refine exec_load_in (.tmp 22) ?_ b2 (o2 + i * 14) r ?_ hV.2 <;> rfl
      (try simp only [Act.put, List.setIfInBounds_toArray, List.set_cons_zero, List.set_cons_succ])
      refine wpAnyH_take (i := 8) (v := ?_) (by simp only [List.getElem?_toArray, List.getElem?_cons_succ, List.getElem?_cons_zero] <;> rfl) (by kernel_rfl) (by kernel_rfl) (by kernel_rfl) (by exact fun _ _ _ h => h) (Or.inl ⟨by rfl, ?_⟩) hHeld ?_
      rotate_left
      · intro V hV; refine exec_neq (.tmp 19) (.tmp 23) 32 ?_ (.agg r.cells.toArray) (.agg r.cells.toArray) ?_ ?_ (guard_rule V _ _ r r) (neq_rule V r) <;> rfl
      (try simp only [Act.put, List.setIfInBounds_toArray, List.set_cons_zero, List.set_cons_succ])
      refine wpAnyH_done (by kernel_rfl) ?_ _
      go_wp2_with fail
      go_roundg k
      case measure => omega
      case rel => exact ⟨i + 1, by go_num, by omega, Lib.hid (HI.out.trans (HB0.out.mono HI.out.size))⟩
end Go.Proofs.Ytandfbepenjbhaa
