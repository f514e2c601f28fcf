/- ScfqOrder, plain: errors and what is sent, operation by operation; how many wait; what came of a flow, on the way. -/
import Derived.Test.YtobkepipmmkboaaScRun
namespace Go.Proofs.Ytobkepipmmkboaa

theorem ScAt.step_errs' (u : Nat → Int) (n : Nat) (t : ScAt) (o : Int × Int × Int) : (t.step u n o).errs = t.errs ++ [scErr n t.st o] := by
  rcases t.way u n o with ⟨_, e⟩ | ⟨f, _, _, _, _, _, he, e⟩ | ⟨f, b, g, _, _, _, he, e⟩
  · rw [e]
  · rw [e, he]
  · rw [e, he]
theorem ScAt.step_sent (u : Nat → Int) (n : Nat) (t : ScAt) (o : Int × Int × Int) : ∃ ss, (t.step u n o).sent = t.sent ++ ss := by
  rcases t.way u n o with ⟨_, e⟩ | ⟨f, _, _, _, _, _, he, e⟩ | ⟨f, b, g, _, _, _, he, e⟩
  · exact ⟨[], by rw [e, List.append_nil]⟩
  · exact ⟨[], by rw [e, List.append_nil]⟩
  · exact ⟨[(f, b)], by rw [e]⟩
theorem fold_pre (u : Nat → Int) (n : Nat) : ∀ (os : List (Int × Int × Int)) (t : ScAt), ∃ es ss, (os.foldl (ScAt.step u n) t).errs = t.errs ++ es ∧ (os.foldl (ScAt.step u n) t).sent = t.sent ++ ss
  | [], t => ⟨[], [], by simp, by simp⟩
  | o :: os, t => by
    obtain ⟨es, ss, h1, h2⟩ := fold_pre u n os (t.step u n o)
    obtain ⟨s2, h3⟩ := t.step_sent u n o
    refine ⟨[scErr n t.st o] ++ es, s2 ++ ss, ?_, ?_⟩
    · rw [List.foldl_cons, h1, t.step_errs', List.append_assoc]
    · rw [List.foldl_cons, h2, h3, List.append_assoc]
theorem scRun_pre (u : Nat → Int) (n : Nat) (os : List (Int × Int × Int)) (i : Nat) : ∃ es ss, (scRun u n os).errs = (scRun u n (os.take i)).errs ++ es ∧ (scRun u n os).sent = (scRun u n (os.take i)).sent ++ ss := by
  obtain ⟨es, ss, h1, h2⟩ := fold_pre u n (os.drop i) (scRun u n (os.take i))
  have e : scRun u n os = (os.drop i).foldl (ScAt.step u n) (scRun u n (os.take i)) := by
    unfold scRun
    rw [← List.foldl_append, List.take_append_drop]
  exact ⟨es, ss, by rw [e, h1], by rw [e, h2]⟩
theorem scRun_errs_length (u : Nat → Int) (n : Nat) (os : List (Int × Int × Int)) : (scRun u n os).errs.length = os.length := (scRun_tr u n os).length
theorem scRun_errAt {u : Nat → Int} {n : Nat} {os : List (Int × Int × Int)} {i : Nat} {o : Int × Int × Int} (h : os[i]? = some o) : (scRun u n os).errs[i]? = some (scErr n (scRun u n (os.take i)).st o) := by
  obtain ⟨es, ss, h1, -⟩ := scRun_pre u n os (i + 1)
  have hi := (List.getElem?_eq_some_iff.1 h).1
  have hl : (scRun u n (os.take i)).errs.length = i := by rw [scRun_errs_length, List.length_take]; omega
  rw [h1, scRun_succ u n h, ScAt.step_errs', List.append_assoc, List.getElem?_append_right (by omega), hl, Nat.sub_self]
  rfl
theorem scRun_sentAt {u : Nat → Int} {n : Nat} {os : List (Int × Int × Int)} {i f : Nat} {b : Int} {o : Int × Int × Int} (h : os[i]? = some o) (hs : ((scRun u n (os.take i)).step u n o).sent = (scRun u n (os.take i)).sent ++ [(f, b)]) : (scRun u n os).sent[(scRun u n (os.take i)).sent.length]? = some (f, b) := by
  obtain ⟨es, ss, -, h2⟩ := scRun_pre u n os (i + 1)
  rw [h2, scRun_succ u n h, hs, List.append_assoc, List.getElem?_append_right (Nat.le_refl _), Nat.sub_self]
  rfl

/-! ### how many wait -/
theorem bytes_nil {s : Sc} {k : Nat} : s.bytes k = [] ↔ s.q k = [] := by
  unfold Sc.bytes
  rw [List.map_eq_nil_iff]
theorem scErr_out {n : Nat} {s : Sc} {o : Int × Int × Int} (h : o.1 = 2) : scErr n s o = 0 ↔ 0 < waitQ s.bytes n := by
  unfold scErr
  rw [if_neg (by omega), if_pos h]
  cases hb : bestF s.q n with
  | none =>
    rw [if_pos rfl, waitQ_zero fun j hj => bytes_nil.2 (bestF_none hb j hj)]
    omega
  | some x =>
    obtain ⟨f, b, g⟩ := x
    have hB := bestF_some hb
    obtain ⟨r, hr⟩ := hB.has
    rw [if_neg (by simp)]
    have := waitQ_pos (q := s.bytes) hB.lt (by rw [Ne, bytes_nil, hr]; simp)
    omega
theorem ScAt.step_wait (u : Nat → Int) (n : Nat) (t : ScAt) (o : Int × Int × Int) :
    (scErr n t.st o ≠ 0 ∧ waitQ (t.step u n o).st.bytes n = waitQ t.st.bytes n) ∨ (scErr n t.st o = 0 ∧ o.1 = 1 ∧ waitQ (t.step u n o).st.bytes n = waitQ t.st.bytes n + 1) ∨
    (scErr n t.st o = 0 ∧ o.1 = 2 ∧ waitQ (t.step u n o).st.bytes n + 1 = waitQ t.st.bytes n) := by
  rcases t.way u n o with ⟨he, e⟩ | ⟨f, h1, _, hf, _, _, he, e⟩ | ⟨f, b, g, h1, _, hb, he, e⟩
  · exact .inl ⟨he, by rw [e]⟩
  · refine .inr (.inl ⟨he, h1, ?_⟩)
    rw [e, bytes_come]
    have := waitQ_put (q := t.st.bytes) (t.st.bytes f ++ [o.2.2]) hf
    rw [List.length_append, List.length_singleton] at this
    omega
  · refine .inr (.inr ⟨he, h1, ?_⟩)
    obtain ⟨r, hr⟩ := hb.has
    rw [e, bytes_send _ hr]
    have := waitQ_put (q := t.st.bytes) (r.map (·.1)) hb.lt
    have hl : (t.st.bytes f).length = r.length + 1 := by unfold Sc.bytes; rw [hr]; simp
    rw [List.length_map] at this
    omega
/-- So many wait before each operation. -/
theorem order_waits (u : Nat → Int) (n : Nat) (os : List (Int × Int × Int)) : ∃ W : Nat → Nat, W 0 = 0 ∧ ∀ (i : Nat) (x y z : Int), os[i]? = some (x, y, z) → ∃ er, (scRun u n os).errs[i]? = some er ∧
    ((er ≠ 0 ∧ W (i + 1) = W i ∧ (x = 2 → W i = 0)) ∨ (er = 0 ∧ x = 1 ∧ W (i + 1) = W i + 1) ∨ (er = 0 ∧ x = 2 ∧ W (i + 1) + 1 = W i)) := by
  refine ⟨fun i => waitQ (scRun u n (os.take i)).st.bytes n, waitQ_zero fun _ _ => rfl, fun i x y z h => ⟨_, scRun_errAt h, ?_⟩⟩
  have ho := scErr_out (n := n) (s := (scRun u n (os.take i)).st) (o := (x, y, z))
  have hw := (scRun u n (os.take i)).step_wait u n (x, y, z)
  rw [← scRun_succ u n h] at hw
  rcases hw with ⟨h1, h2⟩ | hw | hw
  · refine .inl ⟨h1, h2, fun hx => ?_⟩
    have := ho hx
    show waitQ _ n = 0
    omega
  · exact .inr (.inl hw)
  · exact .inr (.inr hw)

/-! ### what came of a flow -/
theorem cameOf_snoc (f : Nat) (o : Int × Int × Int) (e : Int) : ∀ (os : List (Int × Int × Int)) (es : List Int), es.length = os.length → cameOf f (os ++ [o]) (es ++ [e]) = if e = 0 ∧ o.1 = 1 ∧ o.2.1 = (f : Int) then cameOf f os es ++ [o.2.2] else cameOf f os es
  | [], [], _ => by simp [cameOf]
  | p :: os, d :: es, h => by
    have ih := cameOf_snoc f o e os es (by simpa using h)
    rw [List.cons_append, List.cons_append, cameOf, cameOf, ih]
    by_cases c : d = 0 ∧ p.1 = 1 ∧ p.2.1 = (f : Int)
    · rw [if_pos c, if_pos c]
      by_cases c2 : e = 0 ∧ o.1 = 1 ∧ o.2.1 = (f : Int)
      · rw [if_pos c2, if_pos c2]; rfl
      · rw [if_neg c2, if_neg c2]
    · rw [if_neg c, if_neg c]
theorem cameOf_le (f : Nat) : ∀ (os : List (Int × Int × Int)) (es : List Int), (cameOf f os es).length ≤ os.length
  | [], _ => by simp [cameOf]
  | _ :: _, [] => by simp [cameOf]
  | o :: os, e :: es => by
    have ih := cameOf_le f os es
    rw [cameOf]
    by_cases c : e = 0 ∧ o.1 = 1 ∧ o.2.1 = (f : Int)
    · rw [if_pos c, List.length_cons, List.length_cons]; omega
    · rw [if_neg c, List.length_cons]; omega
/-- What has come of each flow before operation i. -/
def cameAt (os : List (Int × Int × Int)) (es : List Int) (i : Nat) (f : Nat) : List Int := cameOf f (os.take i) (es.take i)
theorem cameAt_zero (os : List (Int × Int × Int)) (es : List Int) (f : Nat) : cameAt os es 0 f = [] := rfl
theorem cameAt_le (os : List (Int × Int × Int)) (es : List Int) (i f : Nat) : (cameAt os es i f).length ≤ os.length := Nat.le_trans (cameOf_le _ _ _) (by rw [List.length_take]; omega)
theorem cameAt_succ {os : List (Int × Int × Int)} {es : List Int} (hl : es.length = os.length) {i : Nat} {o : Int × Int × Int} {e : Int} (ho : os[i]? = some o) (he : es[i]? = some e) (f : Nat) : cameAt os es (i + 1) f = if e = 0 ∧ o.1 = 1 ∧ o.2.1 = (f : Int) then cameAt os es i f ++ [o.2.2] else cameAt os es i f := by
  unfold cameAt
  rw [List.take_add_one, List.take_add_one, ho, he]
  exact cameOf_snoc f o e _ _ (by rw [List.length_take, List.length_take, hl])
theorem cameAt_push {os : List (Int × Int × Int)} {es : List Int} (hl : es.length = os.length) {i g : Nat} {b : Int} (ho : os[i]? = some (1, (g : Int), b)) (he : es[i]? = some 0) (f : Nat) : cameAt os es (i + 1) f = putQ (cameAt os es i) g (cameAt os es i g ++ [b]) f := by
  rw [cameAt_succ hl ho he]
  unfold putQ
  by_cases c : f = g
  · subst c
    rw [if_pos ⟨rfl, rfl, rfl⟩, if_pos rfl]
  · rw [if_neg (fun h => c (by have := h.2.2; dsimp only at this; omega)), if_neg c]
theorem cameAt_stay {os : List (Int × Int × Int)} {es : List Int} (hl : es.length = os.length) {i : Nat} {o : Int × Int × Int} {e : Int} (ho : os[i]? = some o) (he : es[i]? = some e) (h : ¬ (e = 0 ∧ o.1 = 1)) (f : Nat) : cameAt os es (i + 1) f = cameAt os es i f := by
  rw [cameAt_succ hl ho he, if_neg fun c => h ⟨c.1, c.2.1⟩]
/-- What is left of a flow, once so much has been sent. -/
def restAt (ss : List (Nat × Int)) (q : Nat → List Int) (i : Nat) (f : Nat) : List Int := sentOf f (ss.drop i) ++ q f
theorem restAt_first {ss : List (Nat × Int)} {q : Nat → List Int} {i g : Nat} {b : Int} (h : ss[i]? = some (g, b)) : restAt ss q i g = b :: restAt ss q (i + 1) g := by
  unfold restAt
  obtain ⟨hi, e⟩ := List.getElem?_eq_some_iff.1 h
  rw [List.drop_eq_getElem_cons hi, e, sentOf, if_pos rfl]
  rfl
theorem restAt_next {ss : List (Nat × Int)} {q : Nat → List Int} {i g : Nat} {b : Int} (h : ss[i]? = some (g, b)) (f : Nat) : restAt ss q (i + 1) f = putQ (restAt ss q i) g (restAt ss q (i + 1) g) f := by
  unfold putQ
  by_cases c : f = g
  · subst c
    rw [if_pos rfl]
  · rw [if_neg c]
    unfold restAt
    obtain ⟨hi, e⟩ := List.getElem?_eq_some_iff.1 h
    rw [List.drop_eq_getElem_cons hi, e, sentOf, if_neg fun d => c d.symm]
theorem restAt_end (ss : List (Nat × Int)) (q : Nat → List Int) (f : Nat) : restAt ss q ss.length f = q f := by
  unfold restAt
  rw [List.drop_length]
  rfl
namespace Tr
variable {n : Nat} {q q' : Nat → List Int} {os : List (Int × Int × Int)} {es : List Int} {ss : List (Nat × Int)}
theorem rest (h : Tr n (fun _ => []) os es ss q') (f : Nat) : cameAt os es os.length f = restAt ss q' 0 f := by
  have := h.kept f
  unfold cameAt restAt
  rw [List.take_of_length_le (Nat.le_refl _), List.take_of_length_le (by rw [h.length]; exact Nat.le_refl _), List.drop_zero, ← this]
  rfl
theorem inside (h : Tr n q os es ss q') : ∀ (i : Nat) (f b : Int), os[i]? = some (1, f, b) → es[i]? = some 0 → ∃ g : Nat, g < n ∧ f = (g : Int) := by
  induction h with
  | nil => intro i f b h; simp at h
  | bad he _ _ ih =>
    intro i f b h1 h2
    cases i with
    | zero => simp only [List.getElem?_cons_zero, Option.some.injEq] at h2; exact absurd h2 he
    | succ i => exact ih i f b (by simpa using h1) (by simpa using h2)
  | come hf _ ih =>
    intro i f b h1 h2
    cases i with
    | zero =>
      simp only [List.getElem?_cons_zero, Option.some.injEq, Prod.mk.injEq] at h1
      exact ⟨_, hf, h1.2.1.symm⟩
    | succ i => exact ih i f b (by simpa using h1) (by simpa using h2)
  | send hf _ _ ih =>
    intro i f b h1 h2
    cases i with
    | zero =>
      simp only [List.getElem?_cons_zero, Option.some.injEq, Prod.mk.injEq] at h1
      exact absurd h1.1 (by decide)
    | succ i => exact ih i f b (by simpa using h1) (by simpa using h2)
theorem sent_le (h : Tr n q os es ss q') : ss.length ≤ os.length := by
  induction h with
  | nil => exact Nat.le_refl _
  | bad _ _ _ ih => rw [List.length_cons]; omega
  | come _ _ ih => rw [List.length_cons]; omega
  | send _ _ _ ih => rw [List.length_cons, List.length_cons]; omega
end Tr
end Go.Proofs.Ytobkepipmmkboaa
