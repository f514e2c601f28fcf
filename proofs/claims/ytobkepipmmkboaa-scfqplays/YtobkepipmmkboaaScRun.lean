/- Self-clocked fair queueing, plain: a row of operations; what it keeps; two that both wait, on the way; two alike by turns. -/
import Derived.Test.YtobkepipmmkboaaScMath
import Derived.Test.YtobkepipmmkboaaFkMath
namespace Go.Proofs.Ytobkepipmmkboaa

/-- What is wrong with an operation (kind, flow, bytes). -/
def scErr (n : Nat) (s : Sc) (o : Int × Int × Int) : Int :=
  if o.1 = 1 then (if o.2.1 < 0 ∨ (n : Int) ≤ o.2.1 then 3 else if o.2.2 < 1 ∨ 1500 < o.2.2 then 2 else 0)
  else if o.1 = 2 then (if bestF s.q n = none then 3 else 0) else 5
/-- Errors, what was sent, the state. -/
structure ScAt where
  errs : List Int
  sent : List (Nat × Int)
  st : Sc
def ScAt.step (u : Nat → Int) (n : Nat) (t : ScAt) (o : Int × Int × Int) : ScAt :=
  if scErr n t.st o = 0 then
    if o.1 = 1 then ⟨t.errs ++ [0], t.sent, t.st.come u o.2.1.toNat o.2.2⟩
    else match bestF t.st.q n with
      | none => ⟨t.errs ++ [0], t.sent, t.st⟩
      | some x => ⟨t.errs ++ [0], t.sent ++ [(x.1, x.2.1)], t.st.send x.1 x.2.2⟩
  else ⟨t.errs ++ [scErr n t.st o], t.sent, t.st⟩
def Sc.zero : Sc := ⟨0, fun _ => 0, fun _ => []⟩
def scRun (u : Nat → Int) (n : Nat) (os : List (Int × Int × Int)) : ScAt := os.foldl (ScAt.step u n) ⟨[], [], Sc.zero⟩
theorem scRun_nil (u : Nat → Int) (n : Nat) : scRun u n [] = ⟨[], [], Sc.zero⟩ := rfl
theorem scRun_snoc (u : Nat → Int) (n : Nat) (os : List (Int × Int × Int)) (o : Int × Int × Int) : scRun u n (os ++ [o]) = (scRun u n os).step u n o := by
  unfold scRun
  rw [List.foldl_append]
  rfl
theorem scRun_succ (u : Nat → Int) (n : Nat) {os : List (Int × Int × Int)} {i : Nat} {o : Int × Int × Int} (h : os[i]? = some o) : scRun u n (os.take (i + 1)) = (scRun u n (os.take i)).step u n o := by
  rw [List.take_add_one, h]
  exact scRun_snoc u n _ o
/-- The three ways of an operation. -/
theorem ScAt.way (u : Nat → Int) (n : Nat) (t : ScAt) (o : Int × Int × Int) :
    (scErr n t.st o ≠ 0 ∧ t.step u n o = ⟨t.errs ++ [scErr n t.st o], t.sent, t.st⟩) ∨
    (∃ f : Nat, o.1 = 1 ∧ o.2.1 = (f : Int) ∧ f < n ∧ 1 ≤ o.2.2 ∧ o.2.2 ≤ 1500 ∧ scErr n t.st o = 0 ∧ t.step u n o = ⟨t.errs ++ [0], t.sent, t.st.come u f o.2.2⟩) ∨
    (∃ f b g, o.1 = 2 ∧ bestF t.st.q n = some (f, b, g) ∧ t.st.Best n f b g ∧ scErr n t.st o = 0 ∧ t.step u n o = ⟨t.errs ++ [0], t.sent ++ [(f, b)], t.st.send f g⟩) := by
  unfold ScAt.step
  by_cases h : scErr n t.st o = 0
  · rw [if_pos h]
    by_cases c : o.1 = 1
    · rw [if_pos c]
      have h' := h
      unfold scErr at h'
      rw [if_pos c] at h'
      by_cases c2 : o.2.1 < 0 ∨ (n : Int) ≤ o.2.1
      · rw [if_pos c2] at h'; omega
      · rw [if_neg c2] at h'
        by_cases c3 : o.2.2 < 1 ∨ 1500 < o.2.2
        · rw [if_pos c3] at h'; omega
        · exact .inr (.inl ⟨o.2.1.toNat, c, by omega, by omega, by omega, by omega, h, rfl⟩)
    · rw [if_neg c]
      have h' := h
      unfold scErr at h'
      rw [if_neg c] at h'
      by_cases c2 : o.1 = 2
      · rw [if_pos c2] at h'
        cases hb : bestF t.st.q n with
        | none => rw [hb, if_pos rfl] at h'; omega
        | some x =>
          obtain ⟨f, b, g⟩ := x
          exact .inr (.inr ⟨f, b, g, c2, rfl, bestF_some hb, h, rfl⟩)
      · rw [if_neg c2] at h'; omega
  · rw [if_neg h]
    exact .inl ⟨h, rfl⟩
theorem scRun_good {u : Nat → Int} (hu : ∀ k, 0 ≤ u k) (n : Nat) (os : List (Int × Int × Int)) : (scRun u n os).st.Good u n := by
  have key : ∀ (os : List (Int × Int × Int)) (t : ScAt), t.st.Good u n → (os.foldl (ScAt.step u n) t).st.Good u n := by
    intro os
    induction os with
    | nil => exact fun _ h => h
    | cons o os ih =>
      intro t h
      refine ih _ ?_
      rcases t.way u n o with ⟨_, e⟩ | ⟨f, _, _, hf, h1, h2, _, e⟩ | ⟨f, b, g, _, _, hb, _, e⟩
      · rw [e]; exact h
      · rw [e]; exact h.come hu hf ⟨h1, h2⟩
      · rw [e]; exact h.send hu hb
  exact key os _ (Sc.Good.start u n)

/-! ### as queues of flows -/
def Sc.bytes (s : Sc) (k : Nat) : List Int := (s.q k).map (·.1)
theorem Tr.append {n : Nat} {q q1 q2 : Nat → List Int} {os os2 : List (Int × Int × Int)} {es es2 : List Int} {ss ss2 : List (Nat × Int)} (h : Tr n q os es ss q1) (h2 : Tr n q1 os2 es2 ss2 q2) : Tr n q (os ++ os2) (es ++ es2) (ss ++ ss2) q2 := by
  induction h with
  | nil => exact h2
  | bad he hk _ ih => exact .bad he hk (ih h2)
  | come hf _ ih => exact .come hf (ih h2)
  | send hf hq _ ih => exact .send hf hq (ih h2)
theorem bytes_come (s : Sc) (u : Nat → Int) (f : Nat) (b : Int) : (s.come u f b).bytes = putQ s.bytes f (s.bytes f ++ [b]) := by
  funext k
  unfold Sc.bytes Sc.come putQ
  by_cases c : k = f
  · simp [c]
  · simp [c]
theorem bytes_send (s : Sc) {f : Nat} {b g : Int} {r : List (Int × Int)} (h : s.q f = (b, g) :: r) : (s.send f g).bytes = putQ s.bytes f (r.map (·.1)) := by
  funext k
  unfold Sc.bytes Sc.send putQ
  by_cases c : k = f
  · simp [c, h]
  · simp [c]
theorem scRun_tr (u : Nat → Int) (n : Nat) (os : List (Int × Int × Int)) : Tr n (fun _ => []) os (scRun u n os).errs (scRun u n os).sent (scRun u n os).st.bytes := by
  have key : ∀ (os2 os1 : List (Int × Int × Int)), Tr n (fun _ => []) os1 (scRun u n os1).errs (scRun u n os1).sent (scRun u n os1).st.bytes → Tr n (fun _ => []) (os1 ++ os2) (scRun u n (os1 ++ os2)).errs (scRun u n (os1 ++ os2)).sent (scRun u n (os1 ++ os2)).st.bytes := by
    intro os2
    induction os2 with
    | nil => intro os1 h; rwa [List.append_nil]
    | cons o os2 ih =>
      intro os1 h
      rw [show os1 ++ o :: os2 = (os1 ++ [o]) ++ os2 by simp]
      refine ih _ ?_
      rw [scRun_snoc]
      rcases (scRun u n os1).way u n o with ⟨he, e⟩ | ⟨f, h1, h2, hf, _, _, _, e⟩ | ⟨f, b, g, h1, _, hb, _, e⟩
      · rw [e]
        have := h.append (Tr.bad (k := o.1) (f := o.2.1) (b := o.2.2) he (fun hk j hj => by
          have he' := he
          unfold scErr at he'
          rw [if_neg (by omega), if_pos hk] at he'
          cases hb : bestF (scRun u n os1).st.q n with
          | none =>
            show ((scRun u n os1).st.q j).map _ = []
            rw [bestF_none hb j hj]
            rfl
          | some x => rw [hb, if_neg (by simp)] at he'; exact absurd rfl he') (.nil _))
        rwa [List.append_nil] at this
      · rw [e, bytes_come]
        have := h.append (Tr.come (n := n) (b := o.2.2) hf (.nil _))
        rw [List.append_nil] at this
        rwa [show ((1, (f : Int), o.2.2) : Int × Int × Int) = o by rw [← h1, ← h2]] at this
      · obtain ⟨r, hr⟩ := hb.has
        rw [e, bytes_send _ hr]
        have hq : (scRun u n os1).st.bytes f = b :: r.map (·.1) := by
          unfold Sc.bytes
          rw [hr]
          rfl
        have := h.append (Tr.send (x := o.2.1) (y := o.2.2) hb.lt hq (.nil _))
        rwa [show ((2, o.2.1, o.2.2) : Int × Int × Int) = o by rw [← h1]] at this
  have := key os [] (.nil _)
  rwa [List.nil_append] at this

/-! ### two that both wait, on the way -/
/-- How far apart the two begin, times both weights. -/
def Sc.gap (s : Sc) (u w : Nat → Int) (a b : Nat) : Int := w a * w b * (s.st u a - s.st u b)
/-- What an operation adds to what a flow has sent. -/
theorem gap_come (s : Sc) (u w : Nat → Int) {a b : Nat} (f : Nat) (m : Int) (ha : s.q a ≠ []) (hb : s.q b ≠ []) : (s.come u f m).gap u w a b = s.gap u w a b := by
  unfold Sc.gap
  rw [(s.st_come u f m ha).1, (s.st_come u f m hb).1]
theorem gap_send {s : Sc} {u w : Nat → Int} {n : Nat} (h : s.Good u n) {a b f : Nat} {m g : Int} (hab : a ≠ b) (ea : u a * w a = 27720) (eb : u b * w b = 27720) (hf : s.Best n f m g) (ha : (s.send f g).q a ≠ []) (hb : (s.send f g).q b ≠ []) :
    (s.send f g).gap u w a b = s.gap u w a b + 27720 * ((if f = a then m * w b else 0) - (if f = b then m * w a else 0)) := by
  unfold Sc.gap
  by_cases c : f = a
  · subst c
    rw [h.st_own hf ha, s.st_send u f g (fun e => hab e.symm), if_pos rfl, if_neg hab, fair_left ea]
    omega
  · rw [if_neg c]
    by_cases d : f = b
    · subst d
      rw [h.st_own hf hb, s.st_send u f g hab, if_pos rfl, fair_right eb]
      omega
    · rw [if_neg d, s.st_send u f g (fun e => c e.symm), s.st_send u f g (fun e => d e.symm)]
      omega
/-- The least and the greatest difference since both wait. -/
structure FairIn (s : Sc) (u w : Nat → Int) (a b : Nat) (d low high : Int) : Prop where
  ex : ∃ K, 27720 * d - s.gap u w a b = K ∧ K - 41580000 * w b ≤ 27720 * low ∧ 27720 * high ≤ K + 41580000 * w a
theorem FairIn.near {s : Sc} {u w : Nat → Int} {a b : Nat} {d low high : Int} (h : FairIn s u w a b d low high) : high - low ≤ 1500 * (w a + w b) := by
  obtain ⟨K, _, h1, h2⟩ := h.ex
  omega
theorem FairIn.start {s : Sc} {u w : Nat → Int} {n : Nat} (h : s.Good u n) (hu : ∀ k, 0 ≤ u k) {a b : Nat} (ha : s.q a ≠ []) (hb : s.q b ≠ []) (wa : 1 ≤ w a) (wb : 1 ≤ w b) (ea : u a * w a = 27720) (eb : u b * w b = 27720) (d : Int) : FairIn s u w a b d d d := by
  have hf := fair_bounds h hu ha hb wa wb ea eb
  refine ⟨_, rfl, ?_, ?_⟩ <;> unfold Sc.gap <;> omega
theorem FairIn.next {s s' : Sc} {u w : Nat → Int} {n : Nat} (h' : s'.Good u n) (hu : ∀ k, 0 ≤ u k) {a b : Nat} (ha : s'.q a ≠ []) (hb : s'.q b ≠ []) (wa : 1 ≤ w a) (wb : 1 ≤ w b) (ea : u a * w a = 27720) (eb : u b * w b = 27720) {d d' low high : Int} (h : FairIn s u w a b d low high) (hg : s'.gap u w a b = s.gap u w a b + 27720 * (d' - d)) : FairIn s' u w a b d' (min low d') (max high d') := by
  obtain ⟨K, e, h1, h2⟩ := h.ex
  have hf := fair_bounds h' hu ha hb wa wb ea eb
  have e' : 27720 * d' - s'.gap u w a b = K := by omega
  unfold Sc.gap at e'
  exact ⟨K, by unfold Sc.gap; omega, by omega, by omega⟩

/-! ### two alike, by turns -/
/-- So many packets, each as long as the next. -/
def likes (b U : Int) (m : Nat) : List (Int × Int) := (List.range m).map fun (i : Nat) => (b, ((i : Int) + 1) * U)
theorem likes_succ (b U : Int) (m : Nat) : likes b U (m + 1) = likes b U m ++ [(b, ((m : Int) + 1) * U)] := by
  unfold likes
  rw [List.range_succ, List.map_append]
  rfl
theorem likes_drop {b U : Int} {m c : Nat} (h : c < m) : (likes b U m).drop c = (b, ((c : Int) + 1) * U) :: (likes b U m).drop (c + 1) := by
  rw [List.drop_eq_getElem_cons (by simp [likes]; exact h)]
  simp [likes]
/-- Two queues, from so many sent on. -/
structure Turn (s : Sc) (b U : Int) (m c0 c1 : Nat) : Prop where
  q0 : s.q 0 = (likes b U m).drop c0
  q1 : s.q 1 = (likes b U m).drop c1
theorem Turn.first {s : Sc} {b U : Int} {m c : Nat} (h : Turn s b U m c c) (hc : c < m) : bestF s.q 2 = some (0, b, ((c : Int) + 1) * U) := by
  have h0 := h.q0
  have h1 := h.q1
  rw [likes_drop hc] at h0 h1
  simp [bestF, h0, h1]
theorem Turn.second {s : Sc} {b U : Int} (hU : 0 < U) {m c : Nat} (h : Turn s b U m (c + 1) c) (hc : c < m) : bestF s.q 2 = some (1, b, ((c : Int) + 1) * U) := by
  have h0 := h.q0
  have h1 := h.q1
  rw [likes_drop hc] at h1
  by_cases c2 : c + 1 < m
  · rw [likes_drop c2] at h0
    have hlt : ((c : Int) + 1) * U < (((c + 1 : Nat) : Int) + 1) * U := Int.mul_lt_mul_of_pos_right (by omega) hU
    simp only [bestF, h0, h1]
    rw [if_pos hlt]
  · rw [List.drop_eq_nil_of_le (by simp [likes]; omega)] at h0
    simp [bestF, h0, h1]
theorem Turn.send0 {s : Sc} {b U : Int} {m c : Nat} (h : Turn s b U m c c) (hc : c < m) (g : Int) : Turn (s.send 0 g) b U m (c + 1) c := by
  refine ⟨?_, ?_⟩
  · show (if (0 : Nat) = 0 then (s.q 0).tail else s.q 0) = _
    rw [if_pos rfl, h.q0, likes_drop hc]
    rfl
  · show (if (1 : Nat) = 0 then (s.q 0).tail else s.q 1) = _
    rw [if_neg (by decide)]
    exact h.q1
theorem Turn.send1 {s : Sc} {b U : Int} {m c : Nat} (h : Turn s b U m (c + 1) c) (hc : c < m) (g : Int) : Turn (s.send 1 g) b U m (c + 1) (c + 1) := by
  refine ⟨?_, ?_⟩
  · show (if (0 : Nat) = 1 then (s.q 1).tail else s.q 0) = _
    rw [if_neg (by decide)]
    exact h.q0
  · show (if (1 : Nat) = 1 then (s.q 1).tail else s.q 1) = _
    rw [if_pos rfl, h.q1, likes_drop hc]
    rfl
/-- On the way to two likes: the time stands still. -/
structure Coming (s : Sc) (b U : Int) (m0 m1 : Nat) : Prop where
  tm : s.tm = 0
  l0 : s.last 0 = (m0 : Int) * U
  l1 : s.last 1 = (m1 : Int) * U
  q0 : s.q 0 = likes b U m0
  q1 : s.q 1 = likes b U m1
theorem Coming.start (b U : Int) : Coming Sc.zero b U 0 0 := ⟨rfl, by simp [Sc.zero], by simp [Sc.zero], rfl, rfl⟩
theorem Coming.come0 {s : Sc} {u : Nat → Int} {b U : Int} (hU : 0 ≤ U) (h0 : u 0 * b = U) {m0 m1 : Nat} (h : Coming s b U m0 m1) : Coming (s.come u 0 b) b U (m0 + 1) m1 := by
  have hn : 0 ≤ (m0 : Int) * U := Int.mul_nonneg (by omega) hU
  have e : s.tag u 0 b = ((m0 : Int) + 1) * U := by
    unfold Sc.tag
    rw [h.tm, h.l0, h0, Int.add_mul, Int.one_mul]
    omega
  refine ⟨h.tm, ?_, ?_, ?_, ?_⟩
  · show (if (0 : Nat) = 0 then s.tag u 0 b else s.last 0) = _
    rw [if_pos rfl, e]
    rfl
  · show (if (1 : Nat) = 0 then s.tag u 0 b else s.last 1) = _
    rw [if_neg (by decide)]
    exact h.l1
  · show (if (0 : Nat) = 0 then s.q 0 ++ [(b, s.tag u 0 b)] else s.q 0) = _
    rw [if_pos rfl, h.q0, e, likes_succ]
  · show (if (1 : Nat) = 0 then s.q 0 ++ [(b, s.tag u 0 b)] else s.q 1) = _
    rw [if_neg (by decide)]
    exact h.q1
theorem Coming.come1 {s : Sc} {u : Nat → Int} {b U : Int} (hU : 0 ≤ U) (h1 : u 1 * b = U) {m0 m1 : Nat} (h : Coming s b U m0 m1) : Coming (s.come u 1 b) b U m0 (m1 + 1) := by
  have hn : 0 ≤ (m1 : Int) * U := Int.mul_nonneg (by omega) hU
  have e : s.tag u 1 b = ((m1 : Int) + 1) * U := by
    unfold Sc.tag
    rw [h.tm, h.l1, h1, Int.add_mul, Int.one_mul]
    omega
  refine ⟨h.tm, ?_, ?_, ?_, ?_⟩
  · show (if (0 : Nat) = 1 then s.tag u 1 b else s.last 0) = _
    rw [if_neg (by decide)]
    exact h.l0
  · show (if (1 : Nat) = 1 then s.tag u 1 b else s.last 1) = _
    rw [if_pos rfl, e]
    rfl
  · show (if (0 : Nat) = 1 then s.q 1 ++ [(b, s.tag u 1 b)] else s.q 0) = _
    rw [if_neg (by decide)]
    exact h.q0
  · show (if (1 : Nat) = 1 then s.q 1 ++ [(b, s.tag u 1 b)] else s.q 1) = _
    rw [if_pos rfl, h.q1, e, likes_succ]
theorem Coming.turn {s : Sc} {b U : Int} {m : Nat} (h : Coming s b U m m) : Turn s b U m 0 0 := ⟨h.q0, h.q1⟩
end Go.Proofs.Ytobkepipmmkboaa
