/- Self-clocked fair queueing, plain: all that wait in one list, in the order in which they came; who is sent is the least of it. -/
import Derived.Test.YtobkepipmmkboaaScRun
namespace Go.Proofs.Ytobkepipmmkboaa

/-- What waits of a flow. -/
def ofl (f : Nat) (l : List (Nat × Int × Int)) : List (Int × Int) := l.filterMap fun x => if x.1 = f then some x.2 else none
theorem ofl_append (f : Nat) (a b : List (Nat × Int × Int)) : ofl f (a ++ b) = ofl f a ++ ofl f b := by
  unfold ofl
  rw [List.filterMap_append]
theorem ofl_cons (f : Nat) (x : Nat × Int × Int) (l : List (Nat × Int × Int)) : ofl f (x :: l) = if x.1 = f then x.2 :: ofl f l else ofl f l := by
  unfold ofl
  rw [List.filterMap_cons]
  by_cases c : x.1 = f
  · rw [if_pos c, if_pos c]
  · rw [if_neg c, if_neg c]
theorem ofl_mem {f : Nat} {l : List (Nat × Int × Int)} {y : Int × Int} (h : y ∈ ofl f l) : (f, y) ∈ l := by
  unfold ofl at h
  obtain ⟨x, hx, e⟩ := List.mem_filterMap.1 h
  by_cases c : x.1 = f
  · rw [if_pos c] at e
    injection e with e
    subst e c
    exact hx
  · rw [if_neg c] at e
    cases e
/-- One list, and the queues. -/
structure OneList (n : Nat) (l : List (Nat × Int × Int)) (s : Sc) : Prop where
  q : ∀ f, ofl f l = s.q f
  lt : ∀ x ∈ l, x.1 < n
theorem OneList.zero (n : Nat) : OneList n [] Sc.zero := ⟨fun _ => rfl, fun _ h => (by cases h)⟩
theorem OneList.come {n : Nat} {l : List (Nat × Int × Int)} {s : Sc} (h : OneList n l s) (u : Nat → Int) {f : Nat} (hf : f < n) (b : Int) : OneList n (l ++ [(f, b, s.tag u f b)]) (s.come u f b) := by
  refine ⟨fun k => ?_, fun x hx => ?_⟩
  · rw [ofl_append, h.q, ofl_cons]
    show _ = if k = f then s.q f ++ [(b, s.tag u f b)] else s.q k
    by_cases c : f = k
    · subst c
      rw [if_pos rfl, if_pos rfl]
      rfl
    · rw [if_neg c, if_neg (fun e => c e.symm)]
      exact List.append_nil _
  · rcases List.mem_append.1 hx with hx | hx
    · exact h.lt x hx
    · rw [List.mem_singleton] at hx
      subst hx
      exact hf

/-! ### the least -/
/-- Sooner: the smaller tag, of equal tags the smaller flow. -/
def lessO (x y : Nat × Int × Int) : Prop := x.2.2 < y.2.2 ∨ (x.2.2 = y.2.2 ∧ x.1 < y.1)
instance (x y : Nat × Int × Int) : Decidable (lessO x y) := by unfold lessO; infer_instance
def atO (l : List (Nat × Int × Int)) (i : Nat) : Nat × Int × Int := l.getD i (0, 0, 0)
theorem atO_get {l : List (Nat × Int × Int)} {i : Nat} {x : Nat × Int × Int} (h : l[i]? = some x) : atO l i = x := by
  unfold atO
  rw [List.getD_eq_getElem?_getD, h]
  rfl
theorem get_atO {l : List (Nat × Int × Int)} {i : Nat} (h : i < l.length) : l[i]? = some (atO l i) := by
  unfold atO
  rw [List.getD_eq_getElem?_getD, List.getElem?_eq_getElem h]
  rfl
/-- The least of the first i, the first of them. -/
def bstI (l : List (Nat × Int × Int)) : Nat → Nat
  | 0 => 0
  | i + 1 => if lessO (atO l i) (atO l (bstI l i)) then i else bstI l i
theorem bstI_succ (l : List (Nat × Int × Int)) (i : Nat) : bstI l (i + 1) = if lessO (atO l i) (atO l (bstI l i)) then i else bstI l i := rfl
theorem bstI_lt (l : List (Nat × Int × Int)) : ∀ i, 0 < i → bstI l i < i
  | 0, h => by omega
  | i + 1, _ => by
    rw [bstI_succ]
    split
    · omega
    · by_cases c : i = 0
      · subst c
        show 0 < 1
        omega
      · have := bstI_lt l i (by omega)
        omega
theorem lessO_irrefl (x : Nat × Int × Int) : ¬ lessO x x := by unfold lessO; omega
theorem lessO_trans {x y z : Nat × Int × Int} (h : lessO x y) (k : lessO y z) : lessO x z := by unfold lessO at *; omega
theorem lessO_total {x y z : Nat × Int × Int} (h : ¬ lessO x y) (k : lessO z y) : lessO z x ∨ ¬ lessO x z := by unfold lessO at *; omega
theorem bstI_low (l : List (Nat × Int × Int)) : ∀ i, (∀ j, j < i → ¬ lessO (atO l j) (atO l (bstI l i))) ∧ ∀ j, j < bstI l i → lessO (atO l (bstI l i)) (atO l j)
  | 0 => ⟨fun j hj => by omega, fun j hj => absurd hj (Nat.not_lt_zero j)⟩
  | i + 1 => by
    obtain ⟨h1, h2⟩ := bstI_low l i
    rw [bstI_succ]
    by_cases c : lessO (atO l i) (atO l (bstI l i))
    · rw [if_pos c]
      have key : ∀ j, j < i → lessO (atO l i) (atO l j) := fun j hj => by
        have := h1 j hj
        unfold lessO at *
        omega
      refine ⟨fun j hj hl => ?_, key⟩
      by_cases e : j = i
      · subst e
        exact lessO_irrefl _ hl
      · have := key j (by omega)
        exact lessO_irrefl _ (lessO_trans this hl)
    · rw [if_neg c]
      refine ⟨fun j hj => ?_, h2⟩
      by_cases e : j = i
      · subst e
        exact c
      · exact h1 j (by omega)

/-! ### who is sent -/
theorem chn_sorted {u : Int} (hu : 0 ≤ u) : ∀ {q : List (Int × Int)} {a l : Int}, (∀ x ∈ q, 1 ≤ x.1) → chn u a q l → (∀ x ∈ q, a ≤ x.2) ∧ q.Pairwise fun x y => x.2 ≤ y.2
  | [], _, _, _, _ => ⟨fun _ h => (by cases h), List.Pairwise.nil⟩
  | (c, g) :: r, a, l, hs, h => by
    have h1 := hs (c, g) (by simp)
    have h2 := Int.mul_nonneg hu (show 0 ≤ c by dsimp only at h1; omega)
    obtain ⟨k1, k2⟩ := chn_sorted hu (fun x hx => hs x (by simp [hx])) h.2
    have h3 := h.1
    refine ⟨fun x hx => ?_, List.pairwise_cons.2 ⟨k1, k2⟩⟩
    rcases List.mem_cons.1 hx with rfl | hx
    · show a ≤ g
      omega
    · have := k1 x hx
      omega
theorem Sc.Good.sorted {s : Sc} {u : Nat → Int} {n : Nat} (h : s.Good u n) (hu : ∀ k, 0 ≤ u k) (f : Nat) : (s.q f).Pairwise fun x y => x.2 ≤ y.2 := by
  cases hq : s.q f with
  | nil => exact List.Pairwise.nil
  | cons x r =>
    obtain ⟨b, g⟩ := x
    obtain ⟨_, _, h3⟩ := h.busy f b g r hq
    obtain ⟨k1, k2⟩ := chn_sorted (hu f) (fun x hx => (h.size f x (by rw [hq]; simp [hx])).1) h3
    exact List.pairwise_cons.2 ⟨k1, k2⟩
/-- The least of the list is who is sent; without it the list is that of the queues behind. -/
theorem OneList.best {n : Nat} {l : List (Nat × Int × Int)} {s : Sc} {u : Nat → Int} (h : OneList n l s) (hg : s.Good u n) (hu : ∀ k, 0 ≤ u k) (h0 : 0 < l.length) {f : Nat} {b g : Int} (hx : atO l (bstI l l.length) = (f, b, g)) :
    s.Best n f b g ∧ OneList n (l.take (bstI l l.length) ++ l.drop (bstI l l.length + 1)) (s.send f g) := by
  have hk := bstI_lt l _ h0
  obtain ⟨hlow, hfirst⟩ := bstI_low l l.length
  have hat := get_atO hk
  rw [hx] at hlow hfirst hat
  generalize bstI l l.length = k at *
  have hl : l = l.take k ++ (f, b, g) :: l.drop (k + 1) := by
    conv => lhs; rw [← List.take_append_drop k l]
    congr 1
    rw [List.drop_eq_getElem_cons hk]
    congr 1
    have := List.getElem?_eq_getElem hk
    rw [hat] at this
    injection this with this
    exact this.symm
  have hq := h.q f
  have hpre : ofl f (l.take k) = [] := by
    rw [List.eq_nil_iff_forall_not_mem]
    intro y hy
    have hm := ofl_mem hy
    obtain ⟨j, hj⟩ := List.getElem?_of_mem hm
    have hjk : j < k := by
      have := (List.getElem?_eq_some_iff.1 hj).1
      rw [List.length_take] at this
      omega
    rw [List.getElem?_take_of_lt hjk] at hj
    have h1 := hfirst j hjk
    rw [atO_get hj] at h1
    have hs := hg.sorted hu f
    rw [← hq, hl, ofl_append, ofl_cons, if_pos rfl, List.pairwise_append] at hs
    have h2 := hs.2.2 y hy (b, g) (by simp)
    unfold lessO at h1
    dsimp only at h1 h2
    omega
  have hqf : s.q f = (b, g) :: ofl f (l.drop (k + 1)) := by
    rw [← hq]
    conv => lhs; rw [hl, ofl_append, hpre, ofl_cons, if_pos rfl, List.nil_append]
  refine ⟨⟨h.lt _ (List.mem_of_getElem? hat), ⟨_, hqf⟩, fun k' b' g' r' hk' hr => ?_⟩, ⟨fun k' => ?_, fun x hx => ?_⟩⟩
  · have hm : (k', b', g') ∈ l := ofl_mem (by rw [h.q k', hr]; simp)
    obtain ⟨j, hj⟩ := List.getElem?_of_mem hm
    have h1 := hlow j (List.getElem?_eq_some_iff.1 hj).1
    rw [atO_get hj] at h1
    unfold lessO at h1
    dsimp only at h1
    omega
  · show _ = if k' = f then (s.q f).tail else s.q k'
    rw [ofl_append]
    by_cases c : k' = f
    · subst c
      rw [if_pos rfl, hpre, hqf]
      rfl
    · rw [if_neg c, ← h.q k']
      conv => rhs; rw [hl, ofl_append, ofl_cons, if_neg (fun e => c e.symm)]
  · rcases List.mem_append.1 hx with hx | hx
    · exact h.lt x (List.mem_of_mem_take hx)
    · exact h.lt x (List.mem_of_mem_drop hx)
/-- Nobody waits: the list is empty. -/
theorem OneList.none {n : Nat} {l : List (Nat × Int × Int)} {s : Sc} (h : OneList n l s) : l = [] ↔ bestF s.q n = none := by
  constructor
  · intro e
    subst e
    cases hb : bestF s.q n with
    | none => rfl
    | some x =>
      obtain ⟨f, b, g⟩ := x
      obtain ⟨r, hr⟩ := (bestF_some hb).has
      rw [← h.q f] at hr
      cases hr
  · intro e
    rw [List.eq_nil_iff_forall_not_mem]
    intro x hx
    have h1 := bestF_none e x.1 (h.lt x hx)
    rw [← h.q] at h1
    have : x.2 ∈ ofl x.1 l := List.mem_filterMap.2 ⟨x, hx, if_pos rfl⟩
    rw [h1] at this
    cases this
theorem OneList.bestF {n : Nat} {l : List (Nat × Int × Int)} {s : Sc} {u : Nat → Int} (h : OneList n l s) (hg : s.Good u n) (hu : ∀ k, 0 ≤ u k) (h0 : 0 < l.length) {f : Nat} {b g : Int} (hx : atO l (bstI l l.length) = (f, b, g)) : Go.Proofs.Ytobkepipmmkboaa.bestF s.q n = some (f, b, g) := by
  have h1 := (h.best hg hu h0 hx).1
  cases hb : Go.Proofs.Ytobkepipmmkboaa.bestF s.q n with
  | none =>
    rw [← h.none] at hb
    subst hb
    cases h0
  | some y =>
    obtain ⟨f2, b2, g2⟩ := y
    obtain ⟨rfl, rfl, rfl⟩ := h1.unique (bestF_some hb)
    rfl
/-- How many of a flow wait. -/
def cntO (f : Nat) (l : List (Nat × Int × Int)) (i : Nat) : Nat := (ofl f (l.take i)).length
theorem cntO_succ (f : Nat) {l : List (Nat × Int × Int)} {i : Nat} {x : Nat × Int × Int} (h : l[i]? = some x) : cntO f l (i + 1) = cntO f l i + if x.1 = f then 1 else 0 := by
  unfold cntO
  rw [List.take_add_one, h, ofl_append, List.length_append, Option.toList_some, ofl_cons]
  by_cases c : x.1 = f
  · rw [if_pos c, if_pos c]; rfl
  · rw [if_neg c, if_neg c]; rfl
end Go.Proofs.Ytobkepipmmkboaa
