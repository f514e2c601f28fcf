/- (*queue).perform carries out one operation. -/
import Derived.Test.YtbckppflfgdblaaHp11
namespace Go.Proofs.Ytbckppflfgdblaa
open Go.RowKit Go.Maps

structure Op4 where
  kind : Int
  id : Int
  hi : Int
  lo : Int
def Op4.val (o : Op4) : Value := .agg #[.int .i64 o.kind, .int .i64 o.id, .int .u64 o.hi, .int .u64 o.lo]
structure Qst where
  n : Nat
  M : Held
/-- What an operation does to a queue: the error code, what is popped, the queue behind it. -/
noncomputable def step (s : Qst) (o : Op4) : Int × List Int × Qst :=
  if o.kind = 1 then (if (s.M o.id).isSome then (6, [], s) else (0, [], ⟨s.n + 1, updM s.M o.id (o.hi, o.lo)⟩))
  else if o.kind = 2 then (if s.n = 0 then (3, [], s) else (0, [least s.M], ⟨s.n - 1, delM s.M (least s.M)⟩))
  else if o.kind = 3 then (if (s.M o.id).isSome then (0, [], ⟨s.n - 1, delM s.M o.id⟩) else (3, [], s))
  else if o.kind = 4 then (if (s.M o.id).isSome then (0, [], ⟨s.n, updM s.M o.id (o.hi, o.lo)⟩) else (3, [], s))
  else (5, [], s)
theorem step_n (s : Qst) (o : Op4) : (step s o).2.2.n ≤ s.n + 1 := by
  unfold step; (repeat' split) <;> simp <;> omega
theorem step_p (s : Qst) (o : Op4) : (step s o).2.1.length ≤ 1 := by
  unfold step; (repeat' split) <;> simp

def Performed (B q m : Nat) (s : Qst) (o : Op4) (ps : List Int) (w : World) (e : Ending) (w' : World) : Prop :=
  e = .returned (.int .i64 (step s o).1) ∧ ∃ P', QT B q m P' (step s o).2.2.n (step s o).2.2.M w' ∧ IntsIs B w' P' (ps ++ (step s o).2.1) ∧ Fr T713 B q m w w'

/-- What is known ahead of an operation. -/
structure Ahead (B q m : Nat) (s : Qst) (o : Op4) (P : Value) (ps : List Int) (w : World) : Prop where
  qt : QT B q m P s.n s.M w
  pop : IntsIs B w P ps
  base : B ≤ w.heap.size
  nmax : s.n + 1 ≤ 5000000000000
  pmax : ps.length + 1 ≤ 5000000000000
  id : I64 o.id
theorem Ahead.below {B q m : Nat} {s : Qst} {o : Op4} {P : Value} {ps : List Int} {w w' : World} (h : Ahead B q m s o P ps w) (hb : Below w.heap.size w w') : Ahead B q m s o P ps w' :=
  ⟨h.qt.below hb, h.pop.below hb, Nat.le_trans h.base hb.size, h.nmax, h.pmax, h.id⟩

theorem performed_same {B q m : Nat} {s : Qst} {o : Op4} {P : Value} {ps : List Int} {w w1 w' : World} (h : Ahead B q m s o P ps w) (hb1 : Below w.heap.size w w1) (hb : Below w1.heap.size w1 w') {e : Int} (hs : step s o = (e, [], s)) : Performed B q m s o ps w (.returned (.int .i64 e)) w' := by
  have hb2 := hb1.trans (hb.mono hb1.size)
  unfold Performed
  rw [hs]
  exact ⟨rfl, P, h.qt.below hb2, by simpa using h.pop.below hb2, Fr.of_below hb2⟩
theorem performed_fr {B q m : Nat} {s s' : Qst} {o : Op4} {P : Value} {ps : List Int} {w w1 w' : World} (h : Ahead B q m s o P ps w) (hb1 : Below w.heap.size w w1) (hs : step s o = (0, [], s')) (hq : QT B q m P s'.n s'.M w') (hf : Fr T71 B q m w1 w') : Performed B q m s o ps w (.returned (.int .i64 0)) w' := by
  unfold Performed
  rw [hs]
  exact ⟨rfl, P, hq, by simpa using (h.pop.below hb1).fr (h.qt.below hb1) hf, (Fr.of_below hb1).trans (hf.mono (fun _ e => .inl e))⟩

theorem push_all {B q m : Nat} {s : Qst} {o : Op4} {P : Value} {ps : List Int} {w w1 : World} (h : Ahead B q m s o P ps w) (hb1 : Below w.heap.size w w1) (hk : o.kind = 1) :
    Calls Try.prog 34 #[.pointer (some ⟨q, 0, none⟩), .agg #[.int .i64 o.id, .int .u64 o.hi, .int .u64 o.lo]] w1 (Performed B q m s o ps w) := by
  have h1 := h.below hb1
  cases hM : (s.M o.id).isSome with
  | true =>
    refine (push_held h1.qt ⟨o.id, o.hi, o.lo⟩ h.id hM).mono ?_
    rintro e w' ⟨rfl, hb⟩
    exact performed_same h hb1 hb (by simp [step, hk, hM])
  | false =>
    refine (push_new h1.qt ⟨o.id, o.hi, o.lo⟩ h.id (by simpa using hM) h.nmax h1.base).mono ?_
    rintro e w' ⟨rfl, hq, hf⟩
    exact performed_fr h hb1 (s' := ⟨s.n + 1, updM s.M o.id (o.hi, o.lo)⟩) (by simp [step, hk, hM]) hq hf
theorem pop_all {B q m : Nat} {s : Qst} {o : Op4} {P : Value} {ps : List Int} {w w1 : World} (h : Ahead B q m s o P ps w) (hb1 : Below w.heap.size w w1) (hk : o.kind = 2) :
    Calls Try.prog 35 #[.pointer (some ⟨q, 0, none⟩)] w1 (Performed B q m s o ps w) := by
  have h1 := h.below hb1
  obtain ⟨n, M⟩ := s
  cases n with
  | zero =>
    refine (pop_none h1.qt).mono ?_
    rintro e w' ⟨rfl, hb⟩
    exact performed_same h hb1 hb (by simp [step, hk])
  | succ n =>
    refine (pop_some h1.qt h1.pop h1.base h.pmax).mono ?_
    rintro e w' ⟨rfl, P', hq, hp, hf⟩
    have hs : step ⟨n + 1, M⟩ o = (0, [least M], ⟨n, delM M (least M)⟩) := by simp [step, hk]
    unfold Performed
    rw [hs]
    exact ⟨rfl, P', hq, hp, (Fr.of_below hb1).trans hf⟩
theorem remove_all {B q m : Nat} {s : Qst} {o : Op4} {P : Value} {ps : List Int} {w w1 : World} (h : Ahead B q m s o P ps w) (hb1 : Below w.heap.size w w1) (hk : o.kind = 3) :
    Calls Try.prog 36 #[.pointer (some ⟨q, 0, none⟩), .int .i64 o.id] w1 (Performed B q m s o ps w) := by
  have h1 := h.below hb1
  cases hM : (s.M o.id).isSome with
  | false =>
    refine (remove_none h1.qt h.id hM).mono ?_
    rintro e w' ⟨rfl, hb⟩
    exact performed_same h hb1 hb (by simp [step, hk, hM])
  | true =>
    obtain ⟨n, M⟩ := s
    cases n with
    | zero => exact absurd (h1.qt.size hM) (by simp)
    | succ n =>
      refine (remove_some h1.qt h.id hM).mono ?_
      rintro e w' ⟨rfl, hq, hf⟩
      exact performed_fr h hb1 (s' := ⟨n, delM M o.id⟩) (by simp only at hM; simp [step, hk, hM]) hq hf
theorem update_all {B q m : Nat} {s : Qst} {o : Op4} {P : Value} {ps : List Int} {w w1 : World} (h : Ahead B q m s o P ps w) (hb1 : Below w.heap.size w w1) (hk : o.kind = 4) :
    Calls Try.prog 37 #[.pointer (some ⟨q, 0, none⟩), .int .i64 o.id, .agg #[.int .u64 o.hi, .int .u64 o.lo]] w1 (Performed B q m s o ps w) := by
  have h1 := h.below hb1
  cases hM : (s.M o.id).isSome with
  | false =>
    refine (update_none h1.qt h.id hM).mono ?_
    rintro e w' ⟨rfl, hb⟩
    exact performed_same h hb1 hb (by simp [step, hk, hM])
  | true =>
    refine (update_some h1.qt h.id hM).mono ?_
    rintro e w' ⟨rfl, hq, hf⟩
    exact performed_fr h hb1 (s' := ⟨s.n, updM s.M o.id (o.hi, o.lo)⟩) (by simp [step, hk, hM]) hq hf

theorem ret_any {P : Ending → World → Prop} {e : Ending} {v : Value} {w : World} (h : P e w) (he : e = .returned v) : P (.returned v) w := he ▸ h

set_option maxHeartbeats 1000000 in
theorem perform_any {B q m : Nat} {s : Qst} {o : Op4} {P : Value} {ps : List Int} {w : World} (h : Ahead B q m s o P ps w) :
    Calls Try.prog 23 #[.pointer (some ⟨q, 0, none⟩), .agg #[.int .i64 o.kind, .int .i64 o.id, .int .u64 o.hi, .int .u64 o.lo]] w (Performed B q m s o ps w) := by
  have hb : Below w.heap.size w (w.alloc (.cells #[.int .i64 o.kind, .int .i64 o.id, .int .u64 o.hi, .int .u64 o.lo] 37)) := (Below.refl _ _).alloc (Nat.le_refl _) _
  have hP := fun hk => push_all h hb hk
  have hO := fun hk => pop_all h hb hk
  have hR := fun hk => remove_all h hb hk
  have hU := fun hk => update_all h hb hk
  have hE : ∀ e, step s o = (e, [], s) → Performed B q m s o ps w (.returned (.int .i64 e)) (w.alloc (.cells #[.int .i64 o.kind, .int .i64 o.id, .int .u64 o.hi, .int .u64 o.lo] 37)) := fun e he => performed_same h hb (Below.refl _ _) he
  clear h
  obtain ⟨k, i, hi, lo⟩ := o
  simp only at *
  by_cases k1 : k = 1
  · subst k1
    have H := Lib.hid (hP rfl)
    clear hP hO hR hU hE hb
    go_enter Try.func23, Try.ntmps23
    go_wp2_with fail
    refine H.out.mono ?_
    intro e w1 hx
    obtain ⟨v, rfl⟩ : ∃ v, e = .returned v := ⟨_, hx.1⟩
    go_wp2
    go_ret
    exact hx
  by_cases k2 : k = 2
  · subst k2
    have H := Lib.hid (hO rfl)
    clear hP hO hR hU hE hb k1
    go_enter Try.func23, Try.ntmps23
    go_wp2_with fail
    refine H.out.mono ?_
    intro e w1 hx
    obtain ⟨v, rfl⟩ : ∃ v, e = .returned v := ⟨_, hx.1⟩
    go_wp2
    go_ret
    exact hx
  by_cases k3 : k = 3
  · subst k3
    have H := Lib.hid (hR rfl)
    clear hP hO hR hU hE hb k1 k2
    go_enter Try.func23, Try.ntmps23
    go_wp2_with fail
    refine H.out.mono ?_
    intro e w1 hx
    obtain ⟨v, rfl⟩ : ∃ v, e = .returned v := ⟨_, hx.1⟩
    go_wp2
    go_ret
    exact hx
  by_cases k4 : k = 4
  · subst k4
    have H := Lib.hid (hU rfl)
    clear hP hO hR hU hE hb k1 k2 k3
    go_enter Try.func23, Try.ntmps23
    go_wp2_with fail
    refine H.out.mono ?_
    intro e w1 hx
    obtain ⟨v, rfl⟩ : ∃ v, e = .returned v := ⟨_, hx.1⟩
    go_wp2
    go_ret
    exact hx
  · have H := Lib.hid (hE 5 (by simp [step, k1, k2, k3, k4]))
    have e1 : (k == 1) = false := beq_eq_false_iff_ne.2 k1
    have e2 : (k == 2) = false := beq_eq_false_iff_ne.2 k2
    have e3 : (k == 3) = false := beq_eq_false_iff_ne.2 k3
    have e4 : (k == 4) = false := beq_eq_false_iff_ne.2 k4
    clear hP hO hR hU hE hb k1 k2 k3 k4
    go_enter Try.func23, Try.ntmps23
    go_wp2
    go_ret
    exact H.out

end Go.Proofs.Ytbckppflfgdblaa
