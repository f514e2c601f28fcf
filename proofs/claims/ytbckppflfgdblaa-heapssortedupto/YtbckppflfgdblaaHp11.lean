/- (*queue).drain empties the queue and returns its Ids in order. -/
import Derived.Test.YtbckppflfgdblaaHp10
namespace Go.Proofs.Ytbckppflfgdblaa
open Go.RowKit Go.Maps

noncomputable def drainF : Nat → Held → List Int
  | 0, _ => []
  | n + 1, M => least M :: drainF n (delM M (least M))
theorem drainF_length (n : Nat) (M : Held) : (drainF n M).length = n := by
  induction n generalizing M with
  | zero => rfl
  | succ n ih => simp [drainF, ih]

theorem Chg.then {S T : Nat → Prop} {a b c : World} (h : Chg S a b) (k : Chg T b c) (hs : ∀ i, i < a.heap.size → T i → S i) : Chg S a c :=
  ⟨k.os.trans h.os, k.tape.trans h.tape, k.output.trans h.output, Nat.le_trans h.size k.size, fun i hi hn => (k.block i (Nat.lt_of_lt_of_le hi h.size) (fun e => hn (hs i hi e))).trans (h.block i hi hn)⟩
/-- What turns a block of numbers leaves the queue as it is. -/
theorem QT.ints {B q m n : Nat} {P : Value} {M : Held} {w w' : World} {S : Nat → Prop} (h : QT B q m P n M w) (hc : Chg S w w') (hs : ∀ k, S k → ∃ c, w.heap[k]? = some (.cells c 3 (0, 0))) : QT B q m P n M w' := by
  obtain ⟨f, hQ, h2⟩ := h
  refine ⟨f, ?_, h2⟩
  rcases hQ with ⟨h0, hr, p, hp, hpo⟩ | ⟨g, cap, hg, hQ⟩
  · refine .inl ⟨h0, hr.of_block (hc.block q hr.lt (fun e => ?_)), p, hp.of_block (hc.block m hp.lt (fun e => ?_)), hpo⟩
    · obtain ⟨c, hcc⟩ := hs q e; exact row_typed hr hcc (by decide) rfl
    · obtain ⟨c, hcc⟩ := hs m e; exact map_typed hp hcc rfl
  · obtain ⟨F, hF, _⟩ := hQ.items
    obtain ⟨p, hp, _⟩ := hQ.place
    refine .inr ⟨g, cap, hg, hQ.keep hc (fun e => ?_) (fun e => ?_) (fun e => ?_)⟩
    · obtain ⟨c, hcc⟩ := hs q e; exact row_typed hQ.row hcc (by decide) rfl
    · obtain ⟨c, hcc⟩ := hs g e; exact row_typed hF hcc (by decide) rfl
    · obtain ⟨c, hcc⟩ := hs m e; exact map_typed hp hcc rfl

/-- An append whose run is known, at a plain region's list. -/
theorem wpList_append_eq {P : Program} {ops : Array Oper} {rest : List Oper} {o : Oper} {a : Act} {w : World} {Q : Exit → Act → World → Prop} (hgd : o.guard = none) (s x : Operand) (t : TypeId)
    (ho : o.op = .call { callee := .builtin .append, args := #[s, x], argTypes := #[t, t] })
    {vs vx v : Value} {w' : World} (hs : a.eval s = vs) (hx : a.eval x = vx) (hrun : (Builtin.append_ #[t, t] o.type #[vs, vx]).run P w = .ok v w') (h : wpList P ops Q rest (a.put o.dst v) w') : wpList P ops Q (o :: rest) a w :=
  wpList_plain hgd fun _ hK => by
    unfold Oper.wp execOp
    simp only [ho, resolve, invoke, builtin, Sem.run_bind, Sem.run_pure, Result.andThen_ok, List.map_toArray, List.map_cons, List.map_nil, hs, hx, hrun]
    exact hK _ _ h

/-- The drain under way: ps is out, k items are in. -/
def Dr (B q m : Nat) (P : Value) (n : Nat) (M : Held) (w : World) (k : Nat) (M' : Held) (ps : List Int) (v : Value) (wr : World) : Prop :=
  QT B q m P k M' wr ∧ IntsIs w.heap.size wr v ps ∧ ps ++ drainF k M' = drainF n M ∧ ps.length + k = n ∧ Fr T71 B q m w wr
def Drained (B q m : Nat) (P : Value) (n : Nat) (M : Held) (w : World) (e : Ending) (w' : World) : Prop :=
  ∃ v, e = .returned v ∧ IntsIs w.heap.size w' v (drainF n M) ∧ w'.cell? ⟨q, 2, none⟩ = some P ∧ Fr T71 B q m w w'

theorem dr_start {B q m n : Nat} {P : Value} {M : Held} {w : World} (h : QT B q m P n M w) (hn : n ≤ 5000000000000) : ∃ w', (Instr.makeSlice 24 (.int .i64 0) (.int .i64 (n : Int))).run Try.prog w = .ok (.slice (some ⟨w.heap.size, 0, none⟩) 0 n) w' ∧ Dr B q m P n M w n M [] (.slice (some ⟨w.heap.size, 0, none⟩) 0 n) w' := by
  obtain ⟨i0, hi, hz0, hz1, hz2⟩ := info_parts Try.info3
  obtain ⟨w', h1, h2, h3⟩ := run_make_own (P := Try.prog) w w.heap.size 24 3 i0 (.int .i64 0) 1 Try.underlying24 hi hz0 hz1 .i64 .i64 n (by rw [hz2]; omega) (by simp only [maxLen]; omega) (Nat.le_refl _)
  have hc : Chg (fun _ => False) w w' := Chg.of_grown h3 (fun k e => by cases e)
  exact ⟨w', h1, h.ints hc (fun _ e => e.elim), h2, rfl, by simp, hc.mono (fun _ _ e => e.elim)⟩

theorem QT.head {B q m n : Nat} {P : Value} {M : Held} {w : World} (h : QT B q m P (n + 1) M w) :
    ∃ f g cap, B ≤ g ∧ QH w q g m cap (n + 1) P f ∧ Heap f (n + 1) ∧ Rep f (n + 1) M ∧ (f 0).id = least M := by
  obtain ⟨f, hQ, hh, hr⟩ := h
  obtain ⟨h0, _⟩ | ⟨g, cap, hg, hQ⟩ := hQ
  · omega
  · exact ⟨f, g, cap, hg, hQ, hh, hr, (least_eq (rep_least hh hr)).symm⟩
/-- take(0). -/
theorem take_least {B : Nat} {w : World} {q m n : Nat} {P : Value} {M : Held} (h : QT B q m P (n + 1) M w) :
    Calls Try.prog 38 #[.pointer (some ⟨q, 0, none⟩), .int .i64 0] w fun e w' => e = .returned (.int .i64 (least M)) ∧ QT B q m P n (delM M (least M)) w' ∧ Fr T71 B q m w w' := by
  obtain ⟨f, g, cap, hg, hQ, hh, hr, hx⟩ := h.head
  refine (take_any hQ hh hr (show 0 < n + 1 by omega)).mono ?_
  rintro e w' ⟨rfl, f1, b1, b2, b3, b4⟩
  rw [hx] at b3 ⊢
  exact ⟨rfl, ⟨f1, .inr ⟨g, cap, hg, b1⟩, b2, b3⟩, fr_of_qgm hQ hg b4⟩

theorem dr_step {B q m n k : Nat} {P v : Value} {M M' : Held} {w wr w1 : World} {ps : List Int} (h : Dr B q m P n M w (k + 1) M' ps v wr) (hn : n ≤ 5000000000000) (h1 : QT B q m P k (delM M' (least M')) w1 ∧ Fr T71 B q m wr w1) :
    ∃ g cap W2, (Builtin.append_ #[24, 24] 24 #[v, .slice (some ⟨w1.heap.size, 0, none⟩) 1 1]).run Try.prog (w1.alloc (.cells #[.int .i64 (least M')] 3)) = .ok (.slice (some ⟨g, 0, none⟩) (ps.length + 1) cap) W2 ∧
      Dr B q m P n M w k (delM M' (least M')) (ps ++ [least M']) (.slice (some ⟨g, 0, none⟩) (ps.length + 1) cap) W2 := by
  obtain ⟨hQ, hI, hd, hl, hf⟩ := h
  obtain ⟨hQ1, hf1⟩ := h1
  have hI1 := hI.fr hQ hf1
  have hle : w.heap.size ≤ w1.heap.size := Nat.le_trans hf.size hf1.size
  obtain ⟨g, cap, W2, hr, h2, h3, h4⟩ := ints_append hI1 hle (by omega) (least M') rfl
  refine ⟨g, cap, W2, hr, hQ1.ints h3 (fun k hk => hI1.typed hk), h2, ?_, ?_, ?_⟩
  · rw [← hd, drainF, List.append_assoc]; rfl
  · rw [List.length_append, List.length_singleton]; omega
  · refine Chg.then (hf.trans hf1) h3 (fun i hi e => ?_)
    have := (hI1.lt i e).1
    omega

theorem dr_done {B q m n : Nat} {P v : Value} {M M' : Held} {w wr : World} {ps : List Int} (h : Dr B q m P n M w 0 M' ps v wr) : Drained B q m P n M w (.returned v) wr := by
  obtain ⟨hQ, hI, hd, hl, hf⟩ := h
  rw [drainF, List.append_nil] at hd
  exact ⟨v, rfl, by rw [← hd]; exact hI, (by obtain ⟨f, hQ, _⟩ := hQ; exact hQ.c2), hf⟩

set_option maxHeartbeats 1000000 in
theorem drain_any {B : Nat} {w : World} {q m n : Nat} {P : Value} {M : Held} (h : QT B q m P n M w) (hn : n ≤ 5000000000000) :
    Calls Try.prog 24 #[.pointer (some ⟨q, 0, none⟩)] w (Drained B q m P n M w) := by
  obtain ⟨A, cap, hc0, _⟩ : ∃ A cap, w.cell? ⟨q, 0, none⟩ = some (.slice A n cap) ∧ True := by
    obtain ⟨f, hQ, _⟩ := h
    obtain ⟨A, cap, hc0, _⟩ := hQ.c0
    exact ⟨A, cap, hc0, trivial⟩
  obtain ⟨w0, hmk, hD⟩ := dr_start h hn
  have HD := Lib.hid hD
  clear hD h
  go_enter Try.func24, Try.ntmps24
  go_wp2
  go_loopg [3] n (fun k v wr => ∃ (M' : Held) (ps : List Int), Hid (Dr B q m P n M w k M' ps v wr))
  case atStart => exact ⟨M, [], HD⟩
  case round =>
    obtain ⟨M', ps, HR⟩ := hrel
    obtain ⟨A, cap, hc1, _⟩ : ∃ A cap, wr.cell? ⟨q, 0, none⟩ = some (.slice A gk cap) ∧ True := by
      obtain ⟨⟨f, hQ, _⟩, _⟩ := HR.out
      obtain ⟨A, cap, hc0, _⟩ := hQ.c0
      exact ⟨A, cap, hc0, trivial⟩
    cases gk with
    | zero =>
      go_wp2
      go_ret
      exact dr_done HR.out
    | succ k =>
      have HT := Lib.hid (take_least HR.out.1)
      go_wp2_with fail
      refine HT.out.mono ?_
      rintro e w1 ⟨rfl, hT⟩
      obtain ⟨g, cap', W2, r2, hD⟩ := dr_step HR.out hn hT
      have HD2 := Lib.hid hD
      clear hT hD
      go_wp2_with (at_builtin; refine wpList_append_eq rfl (.tmp 16) (.tmp 19) 24 rfl rfl rfl r2 ?_)
      go_roundg k
      case measure => omega
      case rel => exact ⟨_, _, HD2⟩

end Go.Proofs.Ytbckppflfgdblaa
