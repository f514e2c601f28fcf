/- Deficit round robin, plain: what a flow sends in a round, in so many rounds; all flows together. -/
import Derived.Test.YtgphbplmkegdeaaWd0
namespace Go.Proofs.Ytgphbplmkegdeaa

/-- How many bytes a row of packets has. -/
def tt : List Int → Int
  | [] => 0
  | p :: r => p + tt r
theorem tt_append (a b : List Int) : tt (a ++ b) = tt a + tt b := by
  induction a with
  | nil => simp [tt]
  | cons p r ih => simp [tt, ih]; omega
theorem tt_nonneg {ps : List Int} (h : ∀ p ∈ ps, 1 ≤ p) : 0 ≤ tt ps := by
  induction ps with
  | nil => exact Int.le_refl _
  | cons p r ih =>
    have h1 := h p (by simp)
    have h2 := ih fun x hx => h x (by simp [hx])
    simp only [tt]
    omega
/-- With so much credit: what is sent, what is left, the credit that is left. -/
def drv : Int → List Int → List Int × List Int × Int
  | c, [] => ([], [], c)
  | c, p :: r => if p ≤ c then (p :: (drv (c - p) r).1, (drv (c - p) r).2.1, (drv (c - p) r).2.2) else ([], p :: r, c)
theorem drv_yes {c p : Int} {r : List Int} (h : p ≤ c) : drv c (p :: r) = (p :: (drv (c - p) r).1, (drv (c - p) r).2.1, (drv (c - p) r).2.2) := by
  simp only [drv]
  rw [if_pos h]
theorem drv_no {c p : Int} {r : List Int} (h : ¬ p ≤ c) : drv c (p :: r) = ([], p :: r, c) := by
  simp only [drv]
  rw [if_neg h]
theorem drv_split (c : Int) (ps : List Int) : (drv c ps).1 ++ (drv c ps).2.1 = ps := by
  induction ps generalizing c with
  | nil => rfl
  | cons p r ih =>
    by_cases h : p ≤ c
    · rw [drv_yes h]
      show p :: ((drv (c - p) r).1 ++ (drv (c - p) r).2.1) = _
      rw [ih]
    · rw [drv_no h]
      rfl
theorem drv_sum (c : Int) (ps : List Int) : tt (drv c ps).1 + (drv c ps).2.2 = c := by
  induction ps generalizing c with
  | nil => simp [drv, tt]
  | cons p r ih =>
    by_cases h : p ≤ c
    · rw [drv_yes h]
      have := ih (c - p)
      simp only [tt]
      omega
    · rw [drv_no h]
      simp [tt]
theorem drv_nonneg {c : Int} (ps : List Int) (h : 0 ≤ c) : 0 ≤ (drv c ps).2.2 := by
  induction ps generalizing c with
  | nil => exact h
  | cons p r ih =>
    by_cases hp : p ≤ c
    · rw [drv_yes hp]
      exact ih (by omega)
    · rw [drv_no hp]
      exact h
theorem drv_head {c : Int} {ps : List Int} {p : Int} {r : List Int} (h : (drv c ps).2.1 = p :: r) : (drv c ps).2.2 < p := by
  induction ps generalizing c with
  | nil => cases h
  | cons q s ih =>
    by_cases hp : q ≤ c
    · rw [drv_yes hp] at h ⊢
      exact ih h
    · rw [drv_no hp] at h ⊢
      injection h with h1 h2
      show c < p
      omega
/-- A round of one flow. -/
def drf (t m : Int) (ps : List Int) : List Int × List Int × Int := ((drv (m + t) ps).1, (drv (m + t) ps).2.1, if (drv (m + t) ps).2.1 = [] then 0 else (drv (m + t) ps).2.2)
/-- So many rounds of one flow. -/
def drr (t m : Int) (ps : List Int) : Nat → List Int × List Int × Int
  | 0 => ([], ps, m)
  | r + 1 => ((drr t m ps r).1 ++ (drf t (drr t m ps r).2.2 (drr t m ps r).2.1).1, (drf t (drr t m ps r).2.2 (drr t m ps r).2.1).2)
theorem drr_succ (t m : Int) (ps : List Int) (r : Nat) : drr t m ps (r + 1) = ((drr t m ps r).1 ++ (drf t (drr t m ps r).2.2 (drr t m ps r).2.1).1, (drf t (drr t m ps r).2.2 (drr t m ps r).2.1).2) := rfl
theorem drr_split (t m : Int) (ps : List Int) : ∀ r, (drr t m ps r).1 ++ (drr t m ps r).2.1 = ps
  | 0 => rfl
  | r + 1 => by
    rw [drr_succ]
    show (drr t m ps r).1 ++ (drv _ _).1 ++ (drv _ _).2.1 = ps
    rw [List.append_assoc, drv_split]
    exact drr_split t m ps r
theorem drr_sizes {t m : Int} {ps : List Int} (h : ∀ p ∈ ps, 1 ≤ p) (r : Nat) : ∀ p ∈ (drr t m ps r).2.1, 1 ≤ p := fun p hp => h p (by
  rw [← drr_split t m ps r]
  exact List.mem_append_right _ hp)
/-- What so many rounds keep, from no credit. -/
structure Dr (t : Int) (ps : List Int) (r : Nat) (d : List Int × List Int × Int) : Prop where
  all : d.1 ++ d.2.1 = ps
  most : tt d.1 ≤ (r : Int) * t
  done : d.2.1 = [] → d.2.2 = 0
  fair : ∀ p s, d.2.1 = p :: s → tt d.1 + d.2.2 = (r : Int) * t ∧ 0 ≤ d.2.2 ∧ d.2.2 < p
theorem drr_keeps {t : Int} {ps : List Int} (ht : 0 ≤ t) (h : ∀ p ∈ ps, 1 ≤ p) : ∀ r, Dr t ps r (drr t 0 ps r)
  | 0 => ⟨rfl, by simp [drr, tt], fun _ => rfl, fun p s e => by
      have h1 := h p (by rw [show ps = p :: s from e]; simp)
      refine ⟨by simp [drr, tt], Int.le_refl _, ?_⟩
      show (0 : Int) < p
      omega⟩
  | r + 1 => by
    have ih := drr_keeps ht h r
    have hsp := drr_split t 0 ps (r + 1)
    rw [drr_succ] at hsp ⊢
    generalize drr t 0 ps r = d at *
    have hs := drv_sum (d.2.2 + t) d.2.1
    have hrt : ((r + 1 : Nat) : Int) * t = (r : Int) * t + t := by
      rw [show ((r + 1 : Nat) : Int) = (r : Int) + 1 by omega, Int.add_mul, Int.one_mul]
    have hm : 0 ≤ d.2.2 ∧ tt d.1 + d.2.2 ≤ (r : Int) * t := by
      cases hd : d.2.1 with
      | nil => have := ih.done hd; have := ih.most; omega
      | cons p s => have := ih.fair p s hd; omega
    have hn := drv_nonneg (c := d.2.2 + t) d.2.1 (by omega)
    refine ⟨hsp, ?_, fun e => ?_, fun p s e => ?_⟩
    · show tt (d.1 ++ (drv (d.2.2 + t) d.2.1).1) ≤ _
      rw [tt_append, hrt]
      omega
    · show (if (drv (d.2.2 + t) d.2.1).2.1 = [] then 0 else (drv (d.2.2 + t) d.2.1).2.2) = 0
      exact if_pos e
    · have e' : (drv (d.2.2 + t) d.2.1).2.1 = p :: s := e
      have hl := drv_head e'
      have hne : ∃ q u, d.2.1 = q :: u := by
        cases hd : d.2.1 with
        | nil => rw [hd] at e'; cases e'
        | cons q u => exact ⟨q, u, rfl⟩
      obtain ⟨q, u, hd⟩ := hne
      have hf := ih.fair q u hd
      show tt (d.1 ++ (drv (d.2.2 + t) d.2.1).1) + (if (drv (d.2.2 + t) d.2.1).2.1 = [] then 0 else (drv (d.2.2 + t) d.2.1).2.2) = _ ∧ 0 ≤ (if (drv (d.2.2 + t) d.2.1).2.1 = [] then 0 else (drv (d.2.2 + t) d.2.1).2.2) ∧ (if (drv (d.2.2 + t) d.2.1).2.1 = [] then 0 else (drv (d.2.2 + t) d.2.1).2.2) < p
      rw [if_neg (by rw [e']; simp), tt_append, hrt]
      omega
/-- With rounds enough nothing is left. -/
theorem Dr.empty {t : Int} {ps : List Int} {r : Nat} {d : List Int × List Int × Int} (h : Dr t ps r d) (hp : ∀ p ∈ ps, 1 ≤ p) (hr : tt ps ≤ (r : Int) * t) : d.2.1 = [] ∧ d.2.2 = 0 := by
  cases hd : d.2.1 with
  | nil => exact ⟨rfl, h.done hd⟩
  | cons p s =>
    exfalso
    have hf := h.fair p s hd
    have ha := h.all
    rw [hd] at ha
    have hs : ∀ x ∈ s, 1 ≤ x := fun x hx => hp x (by rw [← ha]; simp [hx])
    rw [← ha, tt_append, tt] at hr
    have := tt_nonneg hs
    omega

/-! ### all flows -/
/-- What a round sends: flow by flow. -/
def drSent (n : Nat) (f : Nat → List Int) : List (Nat × Int) := (List.range n).flatMap fun k => (f k).map fun b => (k, b)
theorem drSent_succ (n : Nat) (f : Nat → List Int) : drSent (n + 1) f = drSent n f ++ (f n).map fun b => (n, b) := by
  unfold drSent
  rw [List.range_succ, List.flatMap_append]
  simp
/-- What of it is a flow's. -/
def flowOf (k : Nat) (l : List (Nat × Int)) : List Int := l.filterMap fun x => if x.1 = k then some x.2 else none
theorem flowOf_append (k : Nat) (a b : List (Nat × Int)) : flowOf k (a ++ b) = flowOf k a ++ flowOf k b := by
  unfold flowOf
  rw [List.filterMap_append]
theorem flowOf_map (k j : Nat) (l : List Int) : flowOf k (l.map fun b => (j, b)) = if j = k then l else [] := by
  induction l with
  | nil => simp [flowOf]
  | cons b r ih =>
    unfold flowOf at *
    rw [List.map_cons, List.filterMap_cons]
    by_cases h : j = k
    · simp only [h, if_true] at ih ⊢
      rw [ih]
    · simp only [h, if_false] at ih ⊢
      exact ih
theorem flowOf_sent {n : Nat} (f : Nat → List Int) (k : Nat) : flowOf k (drSent n f) = if k < n then f k else [] := by
  induction n with
  | zero => simp [drSent, flowOf]
  | succ n ih =>
    rw [drSent_succ, flowOf_append, ih, flowOf_map]
    by_cases h : k < n
    · rw [if_pos h, if_neg (by omega), if_pos (by omega), List.append_nil]
    · rw [if_neg h]
      by_cases e : n = k
      · subst e
        rw [if_pos rfl, if_pos (by omega), List.nil_append]
      · rw [if_neg e, if_neg (by omega), List.append_nil]
/-- What so many rounds send. -/
def drAll (n : Nat) (t m : Nat → Int) (ps : Nat → List Int) : Nat → List (Nat × Int)
  | 0 => []
  | r + 1 => drAll n t m ps r ++ drSent n fun k => (drf (t k) (drr (t k) (m k) (ps k) r).2.2 (drr (t k) (m k) (ps k) r).2.1).1
theorem flowOf_all {n : Nat} (t m : Nat → Int) (ps : Nat → List Int) {k : Nat} (hk : k < n) : ∀ r, flowOf k (drAll n t m ps r) = (drr (t k) (m k) (ps k) r).1
  | 0 => rfl
  | r + 1 => by
    show flowOf k (drAll n t m ps r ++ _) = _
    rw [flowOf_append, flowOf_all t m ps hk r, flowOf_sent, if_pos hk]
    rfl
theorem flow_lt {n : Nat} {t m : Nat → Int} {ps : Nat → List Int} : ∀ {r : Nat} {x : Nat × Int}, x ∈ drAll n t m ps r → x.1 < n
  | 0, _, h => by cases h
  | r + 1, x, h => by
    rcases List.mem_append.1 h with h | h
    · exact flow_lt h
    · unfold drSent at h
      obtain ⟨k, hk, h⟩ := List.mem_flatMap.1 h
      obtain ⟨b, _, rfl⟩ := List.mem_map.1 h
      exact List.mem_range.1 hk
/-- How many bytes of a flow were sent. -/
theorem tt_flow (k : Nat) (l : List (Nat × Int)) : tt (flowOf k l) = l.foldl (fun a x => if x.1 = k then a + x.2 else a) 0 := by
  have key : ∀ (l : List (Nat × Int)) (a : Int), l.foldl (fun a x => if x.1 = k then a + x.2 else a) a = a + tt (flowOf k l) := by
    intro l
    induction l with
    | nil => intro a; simp [flowOf, tt]
    | cons x r ih =>
      intro a
      rw [List.foldl_cons, ih]
      unfold flowOf
      rw [List.filterMap_cons]
      by_cases h : x.1 = k
      · rw [if_pos h, if_pos h, tt]
        omega
      · rw [if_neg h, if_neg h]
  rw [key l 0, Int.zero_add]
end Go.Proofs.Ytgphbplmkegdeaa
