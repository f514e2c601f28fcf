/- Package drr, plain: which numbers are right; how far the service has come. -/
import Derived.Test.YtgphbplmkegdeaaDrMath
import Derived.Test.YtgphbplmkegdeaaSu
namespace Go.Proofs.Ytgphbplmkegdeaa

def wq (n : Int) : Bool := decide (n < 1) || decide (10000 < n)
def ws (n : Int) : Bool := decide (n < 1) || decide (1500 < n)
def wc (n : Int) : Bool := decide (n < 0) || decide (1499 < n)
theorem wq_false {n : Int} : wq n = false ↔ 1 ≤ n ∧ n ≤ 10000 := by
  unfold wq
  rw [Bool.or_eq_false_iff, decide_eq_false_iff_not, decide_eq_false_iff_not]
  omega
theorem ws_false {n : Int} : ws n = false ↔ 1 ≤ n ∧ n ≤ 1500 := by
  unfold ws
  rw [Bool.or_eq_false_iff, decide_eq_false_iff_not, decide_eq_false_iff_not]
  omega
theorem wc_false {n : Int} : wc n = false ↔ 0 ≤ n ∧ n ≤ 1499 := by
  unfold wc
  rw [Bool.or_eq_false_iff, decide_eq_false_iff_not, decide_eq_false_iff_not]
  omega
def wf (f : List Int) : Bool := decide (400 < (f.length : Int)) || f.any ws
theorem wf_false {f : List Int} : wf f = false ↔ f.length ≤ 400 ∧ ∀ p ∈ f, 1 ≤ p ∧ p ≤ 1500 := by
  unfold wf
  rw [Bool.or_eq_false_iff, decide_eq_false_iff_not, List.any_eq_false]
  constructor
  · rintro ⟨h1, h2⟩
    exact ⟨by omega, fun p hp => ws_false.1 (by simpa using h2 p hp)⟩
  · rintro ⟨h1, h2⟩
    exact ⟨by omega, fun p hp => by simpa using ws_false.2 (h2 p hp)⟩
/-- What Wrong says. -/
def wrongL (xs : List Int) (fs : List (List Int)) : Int := if xs.length ≠ fs.length then 1 else if (decide (16 < (fs.length : Int)) || (xs.any wq || fs.any wf)) = true then 2 else 0
/-- Lists as functions. -/
def fn (xs : List Int) (k : Nat) : Int := xs.getD k 0
theorem fn_at {xs : List Int} {k : Nat} {x : Int} (h : xs[k]? = some x) : fn xs k = x := by
  unfold fn
  rw [List.getD_eq_getElem?_getD, h]
  rfl
theorem at_fn {xs : List Int} {k : Nat} (h : k < xs.length) : xs[k]? = some (fn xs k) := by
  unfold fn
  rw [List.getD_eq_getElem?_getD, List.getElem?_eq_getElem h]
  rfl
def fl (fs : List (List Int)) (k : Nat) : List Int := fs.getD k []
theorem fl_at {xs : List (List Int)} {k : Nat} {x : List Int} (h : xs[k]? = some x) : fl xs k = x := by
  unfold fl
  rw [List.getD_eq_getElem?_getD, h]
  rfl
theorem at_fl {xs : List (List Int)} {k : Nat} (h : k < xs.length) : xs[k]? = some (fl xs k) := by
  unfold fl
  rw [List.getD_eq_getElem?_getD, List.getElem?_eq_getElem h]
  rfl
/-- The numbers are right. -/
structure Right (xs : List Int) (fs : List (List Int)) : Prop where
  len : fs.length = xs.length
  few : xs.length ≤ 16
  turns : ∀ x ∈ xs, 1 ≤ x ∧ x ≤ 10000
  flows : ∀ f ∈ fs, f.length ≤ 400 ∧ ∀ p ∈ f, 1 ≤ p ∧ p ≤ 1500
theorem wrongL_way (xs : List Int) (fs : List (List Int)) : (wrongL xs fs = 1 ∧ xs.length ≠ fs.length) ∨ (wrongL xs fs = 2 ∧ xs.length = fs.length) ∨ (wrongL xs fs = 0 ∧ Right xs fs) := by
  unfold wrongL
  by_cases c : xs.length ≠ fs.length
  · rw [if_pos c]
    exact .inl ⟨rfl, c⟩
  · rw [if_neg c]
    cases h : (decide (16 < (fs.length : Int)) || (xs.any wq || fs.any wf)) with
    | true => exact .inr (.inl ⟨rfl, by omega⟩)
    | false =>
      rw [Bool.or_eq_false_iff, Bool.or_eq_false_iff, decide_eq_false_iff_not, List.any_eq_false, List.any_eq_false] at h
      obtain ⟨h2, h3, h4⟩ := h
      exact .inr (.inr ⟨rfl, by omega, by omega, fun x hx => wq_false.1 (by simpa using h3 x hx), fun y hy => wf_false.1 (by simpa using h4 y hy)⟩)
theorem Right.wrong {xs : List Int} {fs : List (List Int)} (h : Right xs fs) : wrongL xs fs = 0 := by
  have h2 : (decide (16 < (fs.length : Int)) || (xs.any wq || fs.any wf)) = false := by
    rw [Bool.or_eq_false_iff, Bool.or_eq_false_iff, decide_eq_false_iff_not, List.any_eq_false, List.any_eq_false]
    exact ⟨by have := h.len; have := h.few; omega, fun x hx => by simpa using wq_false.2 (h.turns x hx), fun f hf => by simpa using wf_false.2 (h.flows f hf)⟩
  unfold wrongL
  rw [if_neg (by have := h.len; omega), h2]
  rfl
namespace Right
variable {xs : List Int} {fs : List (List Int)} (h : Right xs fs)
include h
theorem turn {k : Nat} (hk : k < xs.length) : 1 ≤ fn xs k ∧ fn xs k ≤ 10000 := h.turns _ (List.mem_of_getElem? (at_fn hk))
theorem turn0 (k : Nat) : 0 ≤ fn xs k ∧ fn xs k ≤ 10000 := by
  by_cases c : k < xs.length
  · have := h.turn c
    omega
  · unfold fn
    rw [List.getD_eq_getElem?_getD, List.getElem?_eq_none (by omega)]
    decide
theorem flow (k : Nat) : (fl fs k).length ≤ 400 ∧ ∀ p ∈ fl fs k, 1 ≤ p ∧ p ≤ 1500 := by
  by_cases c : k < fs.length
  · exact h.flows _ (List.mem_of_getElem? (at_fl c))
  · unfold fl
    rw [List.getD_eq_getElem?_getD, List.getElem?_eq_none (by omega)]
    exact ⟨by decide, fun p hp => by cases hp⟩
theorem sizes (k : Nat) : ∀ p ∈ fl fs k, 1 ≤ p := fun p hp => ((h.flow k).2 p hp).1
end Right
/-- The credits are right. -/
structure Cred (n : Nat) (ms : List Int) : Prop where
  len : ms.length = n
  all : ∀ m ∈ ms, 0 ≤ m ∧ m ≤ 1499
theorem Cred.cred {n : Nat} {ms : List Int} (h : Cred n ms) (k : Nat) : 0 ≤ fn ms k ∧ fn ms k ≤ 1499 := by
  by_cases c : k < ms.length
  · exact h.all _ (List.mem_of_getElem? (at_fn c))
  · unfold fn
    rw [List.getD_eq_getElem?_getD, List.getElem?_eq_none (by omega)]
    decide
theorem Cred.zero (n : Nat) : Cred n (List.replicate n 0) := ⟨List.length_replicate, fun m hm => by
  rw [(List.mem_replicate.1 hm).2]
  decide⟩
theorem fn_zero (n k : Nat) : fn (List.replicate n 0) k = 0 := by
  unfold fn
  rw [List.getD_eq_getElem?_getD, List.getElem?_replicate]
  split <;> rfl

/-! ### one flow -/
/-- In the midst of a flow's turn. -/
def Part (c0 : Int) (l0 done rest : List Int) (c : Int) : Prop := drv c0 l0 = (done ++ (drv c rest).1, (drv c rest).2)
theorem Part.start (c : Int) (l : List Int) : Part c l [] l c := rfl
theorem Part.next {c0 c p : Int} {l0 done rest : List Int} (h : Part c0 l0 done (p :: rest) c) (hp : p ≤ c) : Part c0 l0 (done ++ [p]) rest (c - p) := by
  unfold Part at *
  rw [drv_yes hp] at h
  rw [h, List.append_assoc]
  rfl
theorem Part.stop {c0 c : Int} {l0 done rest : List Int} (h : Part c0 l0 done rest c) (hs : ∀ p r, rest = p :: r → c < p) : drv c0 l0 = (done, rest, c) := by
  unfold Part at h
  cases rest with
  | nil => rw [h]; simp [drv]
  | cons p r => rw [h, drv_no (by have := hs p r rfl; omega), List.append_nil]
theorem Part.all {c0 c : Int} {l0 done rest : List Int} (h : Part c0 l0 done rest c) : done ++ rest = l0 := by
  have h1 := drv_split c0 l0
  unfold Part at h
  rw [h] at h1
  rw [List.append_assoc, drv_split] at h1
  exact h1
theorem Part.pre {c0 c : Int} {l0 done rest : List Int} (h : Part c0 l0 done rest c) : done.length ≤ (drv c0 l0).1.length := by
  unfold Part at h
  rw [h, List.length_append]
  omega
theorem drr_cred {t m : Int} {ps : List Int} (ht : 0 ≤ t) (hm : 0 ≤ m ∧ m ≤ 1499) (h : ∀ p ∈ ps, 1 ≤ p ∧ p ≤ 1500) : ∀ r, 0 ≤ (drr t m ps r).2.2 ∧ (drr t m ps r).2.2 ≤ 1499
  | 0 => hm
  | r + 1 => by
    have ih := drr_cred ht hm h r
    rw [drr_succ]
    show 0 ≤ (if (drv ((drr t m ps r).2.2 + t) (drr t m ps r).2.1).2.1 = [] then 0 else (drv ((drr t m ps r).2.2 + t) (drr t m ps r).2.1).2.2) ∧ (if (drv ((drr t m ps r).2.2 + t) (drr t m ps r).2.1).2.1 = [] then 0 else (drv ((drr t m ps r).2.2 + t) (drr t m ps r).2.1).2.2) ≤ 1499
    have hn := drv_nonneg (c := (drr t m ps r).2.2 + t) (drr t m ps r).2.1 (by omega)
    cases hd : (drv ((drr t m ps r).2.2 + t) (drr t m ps r).2.1).2.1 with
    | nil => rw [if_pos rfl]; omega
    | cons p s =>
      rw [if_neg (by simp)]
      have hl := drv_head hd
      have hp : p ∈ ps := by
        rw [← drr_split t m ps r]
        refine List.mem_append_right _ ?_
        rw [← drv_split ((drr t m ps r).2.2 + t) (drr t m ps r).2.1, hd]
        simp
      have := h p hp
      omega
theorem drop_of_append {a b l : List Int} (h : a ++ b = l) : b = l.drop a.length := by
  subst h
  simp

/-! ### all flows -/
section
variable (xs : List Int) (fs : List (List Int)) (ms : List Int)
/-- The flow j after r rounds. -/
def fD (r j : Nat) : List Int × List Int × Int := drr (fn xs j) (fn ms j) (fl fs j) r
/-- What a flow sends in the round behind r. -/
def fS (r j : Nat) : List Int := (drf (fn xs j) (fD xs fs ms r j).2.2 (fD xs fs ms r j).2.1).1
/-- The flow j after r rounds and k flows. -/
def aD (r k j : Nat) : List Int × List Int × Int := if j < k then fD xs fs ms (r + 1) j else fD xs fs ms r j
/-- What was sent after r rounds and k flows. -/
def aS (r k : Nat) : List (Nat × Int) := drAll xs.length (fn xs) (fn ms) (fl fs) r ++ drSent k (fS xs fs ms r)
def outS (r : Nat) : List (Nat × Int) := drAll xs.length (fn xs) (fn ms) (fl fs) r
def outL (r : Nat) : List (List Int) := (List.range xs.length).map fun j => (fD xs fs ms r j).2.1
def outC (r : Nat) : List Int := (List.range xs.length).map fun j => (fD xs fs ms r j).2.2
theorem aS_zero : aS xs fs ms 0 0 = [] := rfl
theorem aS_start (r : Nat) : aS xs fs ms r 0 = outS xs fs ms r := List.append_nil _
theorem aS_end (r : Nat) : aS xs fs ms r xs.length = aS xs fs ms (r + 1) 0 := (List.append_nil (aS xs fs ms r xs.length)).symm
theorem aD_start (r j : Nat) : aD xs fs ms r 0 j = fD xs fs ms r j := if_neg (by omega)
theorem aD_end (r j : Nat) (hj : j < xs.length) : aD xs fs ms r xs.length j = aD xs fs ms (r + 1) 0 j := by
  unfold aD
  rw [if_pos hj, if_neg (by omega)]
theorem aS_succ (r k : Nat) : aS xs fs ms r (k + 1) = aS xs fs ms r k ++ (fS xs fs ms r k).map fun b => (k, b) := by
  unfold aS
  rw [drSent_succ, List.append_assoc]
theorem fS_eq (r j : Nat) : fS xs fs ms r j = (drv ((fD xs fs ms r j).2.2 + fn xs j) (fD xs fs ms r j).2.1).1 := rfl
theorem fD_succ (r j : Nat) : fD xs fs ms (r + 1) j = ((fD xs fs ms r j).1 ++ fS xs fs ms r j, (drf (fn xs j) (fD xs fs ms r j).2.2 (fD xs fs ms r j).2.1).2) := rfl
theorem fD_split (r j : Nat) : (fD xs fs ms r j).1 ++ (fD xs fs ms r j).2.1 = fl fs j := drr_split _ _ _ _
theorem fD_drop (r j : Nat) : (fD xs fs ms r j).2.1 = (fl fs j).drop (fD xs fs ms r j).1.length := drop_of_append (fD_split xs fs ms r j)
theorem outL_length (r : Nat) : (outL xs fs ms r).length = xs.length := by simp [outL]
theorem outC_length (r : Nat) : (outC xs fs ms r).length = xs.length := by simp [outC]
theorem outL_fl (r : Nat) {j : Nat} (hj : j < xs.length) : fl (outL xs fs ms r) j = (fD xs fs ms r j).2.1 := fl_at (by simp [outL, hj])
theorem outC_fn (r : Nat) {j : Nat} (hj : j < xs.length) : fn (outC xs fs ms r) j = (fD xs fs ms r j).2.2 := fn_at (by simp [outC, hj])
end
/-- A turn is over. -/
theorem fD_turn {xs : List Int} {fs : List (List Int)} {ms : List Int} {r j : Nat} {done rest : List Int} {c : Int} (h : drv ((fD xs fs ms r j).2.2 + fn xs j) (fD xs fs ms r j).2.1 = (done, rest, c)) :
    fS xs fs ms r j = done ∧ fD xs fs ms (r + 1) j = ((fD xs fs ms r j).1 ++ done, rest, if rest = [] then 0 else c) := by
  have h1 : fS xs fs ms r j = done := by rw [fS_eq, h]
  refine ⟨h1, ?_⟩
  rw [fD_succ, h1]
  unfold drf
  rw [h]
theorem flowOf_lt {n k : Nat} (f : Nat → List Int) {x : Nat × Int} (hx : x ∈ drSent n f) (hn : n ≤ k) : x.1 < k := by
  unfold drSent at hx
  obtain ⟨j, hj, h⟩ := List.mem_flatMap.1 hx
  obtain ⟨b, _, rfl⟩ := List.mem_map.1 h
  have := List.mem_range.1 hj
  show j < k
  omega
theorem len_flows {n : Nat} : ∀ {l : List (Nat × Int)}, (∀ x ∈ l, x.1 < n) → (l.length : Int) = su (fun k => ((flowOf k l).length : Int)) n
  | [], _ => by
    have : su (fun k => ((flowOf k []).length : Int)) n = su (fun _ => 0 * 0) n := su_congr fun k _ => rfl
    rw [this, su_mul, Int.zero_mul]
    rfl
  | x :: l, h => by
    have ih := len_flows (n := n) (l := l) fun y hy => h y (List.mem_cons_of_mem _ hy)
    have h1 : su (fun k => ((flowOf k (x :: l)).length : Int)) n = su (fun k => ((flowOf k l).length : Int) + (if k = x.1 then 1 else 0)) n := su_congr fun k _ => by
      unfold flowOf
      rw [List.filterMap_cons]
      by_cases c : x.1 = k
      · rw [if_pos c, if_pos c.symm, List.length_cons]; omega
      · rw [if_neg c, if_neg (fun e => c e.symm)]; simp
    have h2 : ∀ m, su (fun k => (if k = x.1 then 1 else 0 : Int)) m = if x.1 < m then 1 else 0 := fun m => by
      induction m with
      | zero => rfl
      | succ m ih =>
        rw [su_succ, ih]
        by_cases c : m = x.1
        · rw [if_pos c, if_neg (by omega), if_pos (by omega)]; rfl
        · rw [if_neg c]
          by_cases d : x.1 < m
          · rw [if_pos d, if_pos (by omega)]; rfl
          · rw [if_neg d, if_neg (by omega)]; rfl
    rw [h1, su_add, h2, if_pos (h x (by simp)), ← ih, List.length_cons]
    omega
theorem flow_aS {xs : List Int} {fs : List (List Int)} {ms : List Int} {r k j : Nat} (hj : j < xs.length) : flowOf j (aS xs fs ms r k) = (aD xs fs ms r k j).1 := by
  unfold aS aD
  rw [flowOf_append, flowOf_all _ _ _ hj, flowOf_sent]
  by_cases c : j < k
  · rw [if_pos c, if_pos c]; rfl
  · rw [if_neg c, if_neg c, List.append_nil]; rfl
theorem aS_lt {xs : List Int} {fs : List (List Int)} {ms : List Int} {r k : Nat} (hk : k ≤ xs.length) : ∀ x ∈ aS xs fs ms r k, x.1 < xs.length := fun x hx => by
  rcases List.mem_append.1 hx with h | h
  · exact flow_lt h
  · exact flowOf_lt _ h hk
theorem aS_len {xs : List Int} {fs : List (List Int)} {ms : List Int} (hR : Right xs fs) (r : Nat) {k : Nat} (hk : k ≤ xs.length) : (aS xs fs ms r k).length ≤ 6400 := by
  have h1 := len_flows (aS_lt (fs := fs) (ms := ms) (r := r) hk)
  have h2 : su (fun j => ((flowOf j (aS xs fs ms r k)).length : Int)) xs.length ≤ 400 * (xs.length : Int) := su_bound fun j hj => by
    show ((flowOf j (aS xs fs ms r k)).length : Int) ≤ 400
    rw [flow_aS hj]
    have h3 := (hR.flow j).1
    have h4 : (aD xs fs ms r k j).1.length ≤ (fl fs j).length := by
      unfold aD
      split
      · rw [← fD_split xs fs ms (r + 1) j, List.length_append]; omega
      · rw [← fD_split xs fs ms r j, List.length_append]; omega
    omega
  have := hR.few
  omega
theorem part_len {xs : List Int} {fs : List (List Int)} {ms : List Int} (hR : Right xs fs) {r k : Nat} (hk : k < xs.length) {done rest : List Int} {c : Int} (h : Part ((fD xs fs ms r k).2.2 + fn xs k) (fD xs fs ms r k).2.1 done rest c) : (aS xs fs ms r k ++ done.map fun b => (k, b)).length ≤ 6400 := by
  have h1 := aS_len (ms := ms) hR r (k := k + 1) hk
  rw [aS_succ, fS_eq, List.length_append, List.length_map] at h1
  rw [List.length_append, List.length_map]
  have := h.pre
  omega
theorem fD_cred {xs : List Int} {fs : List (List Int)} {ms : List Int} (hR : Right xs fs) (hC : Cred xs.length ms) (r j : Nat) : 0 ≤ (fD xs fs ms r j).2.2 ∧ (fD xs fs ms r j).2.2 ≤ 1499 := drr_cred (hR.turn0 j).1 (hC.cred j) (hR.flow j).2 r
theorem fD_len {xs : List Int} {fs : List (List Int)} {ms : List Int} (hR : Right xs fs) (r j : Nat) : (fD xs fs ms r j).1.length + (fD xs fs ms r j).2.1.length = (fl fs j).length ∧ (fl fs j).length ≤ 400 := by
  rw [← List.length_append, fD_split]
  exact ⟨rfl, (hR.flow j).1⟩
theorem fD_sizes {xs : List Int} {fs : List (List Int)} {ms : List Int} (hR : Right xs fs) (r j : Nat) : ∀ p ∈ (fD xs fs ms r j).2.1, 1 ≤ p ∧ p ≤ 1500 := fun p hp => (hR.flow j).2 p (by
  rw [← fD_split xs fs ms r j]
  exact List.mem_append_right _ hp)
end Go.Proofs.Ytgphbplmkegdeaa
