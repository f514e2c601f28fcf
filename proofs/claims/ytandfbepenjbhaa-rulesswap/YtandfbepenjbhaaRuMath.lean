/- Rules of classification, plain. No program is met here. -/
import Derived.Test.YtandfbepenjbhaaTrMath
namespace Go.Proofs.Ytandfbepenjbhaa

structure Ru where
  src : Ad
  dst : Ad
  sb : Int
  db : Int
  pr : Int
  lo : Int
  hi : Int
  cl : Int
structure Hd where
  src : Ad
  dst : Ad
  pr : Int
  sp : Int
  dp : Int
  ln : Int
  ma : Int
def Ru.Ok (r : Ru) : Prop := r.src.Ok ∧ r.dst.Ok
def Hd.Ok (h : Hd) : Prop := h.src.Ok ∧ h.dst.Ok
def Ru.spf (r : Ru) : Pf := ⟨r.src, r.sb, 0⟩
def Ru.dpf (r : Ru) : Pf := ⟨r.dst, r.db, 0⟩
def btw (n l h : Int) : Bool := decide (l ≤ n) && decide (n ≤ h)
def Ru.val (r : Ru) : Bool := btw r.sb 0 32 && (btw r.db 0 32 && (btw r.pr 0 255 && (decide (0 ≤ r.lo) && (decide (r.lo ≤ r.hi) && (decide (r.hi ≤ 65535) && btw r.cl 0 15)))))
def takes (r : Ru) (p : Int) : Bool := r.pr == 0 || r.pr == p
noncomputable def fits (h : Hd) (r : Ru) : Bool := inB h.src.num r.spf && (inB h.dst.num r.dpf && (takes r h.pr && btw h.dp r.lo r.hi))
noncomputable def holds (p q : Pf) : Bool := decide (p.bits ≤ q.bits) && inB q.n p
noncomputable def covers (b a : Ru) : Bool := holds a.spf b.spf && (holds a.dpf b.dpf && (takes a b.pr && (decide (a.lo ≤ b.lo) && decide (b.hi ≤ a.hi))))
def wrongB (l : List Ru) : Bool := decide (400 < l.length) || l.any (fun r => !r.val)
def wrongR (l : List Ru) : Int := if wrongB l then 2 else 0
noncomputable def found (h : Hd) (l : List Ru) : Int × Int := match l.find? (fits h) with
  | some r => (r.cl, 0)
  | none => (0, 3)
noncomputable def class2 (l : List Ru) (h : Hd) : Int × Int := if wrongB l then (0, 2) else found h l
noncomputable def prune (kept : List Ru) : List Ru → List Ru
  | [] => kept
  | r :: l => if kept.any (covers r) then prune kept l else prune (kept ++ [r]) l

theorem wrongR_ne {l : List Ru} : (wrongR l != 0) = wrongB l := by unfold wrongR; cases wrongB l <;> rfl
theorem wrong_append {l m : List Ru} (h : wrongB (l ++ m) = false) : wrongB l = false := by
  unfold wrongB at *
  rw [List.length_append, List.any_append] at h
  simp only [Bool.or_eq_false_iff, decide_eq_false_iff_not] at h ⊢
  exact ⟨by omega, h.2.1⟩
theorem found_append {h : Hd} {l m : List Ru} (hf : (found h l).2 = 0) : found h (l ++ m) = found h l := by
  unfold found at *
  rw [List.find?_append]
  cases h1 : l.find? (fits h) with
  | none => rw [h1] at hf; exact absurd hf (by decide)
  | some r => rfl
theorem found_none {h : Hd} {l : List Ru} (m : List Ru) (hf : (found h l).2 ≠ 0) : found h (l ++ m) = found h m := by
  unfold found at *
  rw [List.find?_append]
  cases h1 : l.find? (fits h) with
  | some r => rw [h1] at hf; exact absurd rfl hf
  | none => rfl
theorem found_two (h : Hd) (l : List Ru) : (found h l).2 = 0 ∨ found h l = (0, 3) := by
  unfold found
  cases l.find? (fits h) with
  | some r => exact .inl rfl
  | none => exact .inr rfl
theorem found_cons (h : Hd) (r : Ru) (l : List Ru) : found h (r :: l) = if fits h r = true then (r.cl, 0) else found h l := by
  unfold found
  rw [List.find?_cons]
  cases fits h r <;> rfl

/-! ### what covers -/
theorem top_top {x y k m : Nat} (hk : k ≤ m) (hm : m ≤ 32) (h : top x m = top y m) : top x k = top y k := by
  unfold top at *
  have e : 2 ^ (32 - k) = 2 ^ (32 - m) * 2 ^ (m - k) := by rw [← Nat.pow_add, show 32 - m + (m - k) = 32 - k by omega]
  rw [e, ← Nat.div_div_eq_div_mul, ← Nat.div_div_eq_div_mul, h]
theorem holds_in {p q : Pf} {x : Nat} (h : holds p q = true) (hx : inB x q = true) : inB x p = true := by
  unfold holds at h
  rw [Bool.and_eq_true, decide_eq_true_iff] at h
  have h1 := inB_iff.1 h.2
  have h2 := inB_iff.1 hx
  obtain ⟨⟨a0, a1⟩, a2⟩ := h1
  obtain ⟨⟨b0, b1⟩, b2⟩ := h2
  refine inB_iff.2 ⟨⟨a0, a1⟩, ?_⟩
  have hk : p.b ≤ q.b := by unfold Pf.b; omega
  have hm : q.b ≤ 32 := by unfold Pf.b; omega
  rw [top_top hk hm b2, a2]
theorem covers_fits {a b : Ru} {h : Hd} (hc : covers b a = true) (hf : fits h b = true) : fits h a = true := by
  unfold covers at hc
  unfold fits at *
  simp only [Bool.and_eq_true, decide_eq_true_iff] at *
  obtain ⟨c1, c2, c3, c4, c5⟩ := hc
  obtain ⟨f1, f2, f3, f4⟩ := hf
  refine ⟨holds_in c1 f1, holds_in c2 f2, ?_, ?_⟩
  · unfold takes at *
    simp only [Bool.or_eq_true, beq_iff_eq] at *
    omega
  · unfold btw at *
    simp only [Bool.and_eq_true, decide_eq_true_iff] at *
    omega

/-! ### what is left -/
theorem prune_found (h : Hd) (l : List Ru) : ∀ kept : List Ru, found h (prune kept l) = found h (kept ++ l) := by
  induction l with
  | nil => intro kept; simp [prune]
  | cons r l ih =>
    intro kept
    unfold prune
    split
    · rename_i hc
      rw [ih]
      rcases found_two h kept with h1 | h1
      · rw [found_append h1, found_append h1]
      · have h1' : (found h kept).2 ≠ 0 := by rw [h1]; decide
        rw [found_none _ h1', found_none _ h1', found_cons]
        rw [if_neg]
        intro hf
        obtain ⟨a, ha, hca⟩ := List.any_eq_true.1 hc
        have := covers_fits hca hf
        unfold found at h1
        cases h2 : kept.find? (fits h) with
        | some s => rw [h2] at h1; simp at h1
        | none => exact absurd this (by simpa using List.find?_eq_none.1 h2 a ha)
    · rw [ih]
      simp
theorem prune_sub (l : List Ru) : ∀ (kept : List Ru) (P : Ru → Prop), (∀ r ∈ kept, P r) → (∀ r ∈ l, P r) → ∀ r ∈ prune kept l, P r := by
  induction l with
  | nil => intro kept P hk _; exact hk
  | cons a l ih =>
    intro kept P hk hl
    unfold prune
    have hl' : ∀ r ∈ l, P r := fun r hr => hl r (List.mem_cons_of_mem _ hr)
    split
    · exact ih kept P hk hl'
    · refine ih _ P (fun r hr => ?_) hl'
      rcases List.mem_append.1 hr with hr | hr
      · exact hk r hr
      · obtain rfl : r = a := by simpa using hr
        exact hl r List.mem_cons_self
theorem prune_len (l : List Ru) : ∀ kept : List Ru, (prune kept l).length ≤ kept.length + l.length := by
  induction l with
  | nil => intro kept; exact Nat.le_refl _
  | cons a l ih =>
    intro kept
    unfold prune
    split
    · have := ih kept
      rw [List.length_cons]
      omega
    · have := ih (kept ++ [a])
      rw [List.length_append, List.length_singleton] at this
      rw [List.length_cons]
      omega
/-- Rules of which none is covered by one ahead of it. -/
def Apart (l : List Ru) : Prop := l.Pairwise (fun a b => covers b a = false)
theorem prune_apart (l : List Ru) : ∀ kept : List Ru, Apart kept → Apart (prune kept l) := by
  induction l with
  | nil => intro kept h; exact h
  | cons a l ih =>
    intro kept h
    unfold prune
    split
    · exact ih kept h
    · rename_i hc
      refine ih _ ?_
      unfold Apart
      rw [List.pairwise_append]
      refine ⟨h, List.pairwise_singleton _ _, fun x hx y hy => ?_⟩
      obtain rfl : y = a := by simpa using hy
      cases hxy : covers y x with
      | false => rfl
      | true => exact absurd (List.any_eq_true.2 ⟨x, hx, hxy⟩) hc
theorem apart_prune (l : List Ru) : ∀ kept : List Ru, Apart (kept ++ l) → prune kept l = kept ++ l := by
  induction l with
  | nil => intro kept _; simp [prune]
  | cons a l ih =>
    intro kept h
    unfold prune
    rw [if_neg, ih]
    · simp
    · simpa using h
    · intro hc
      obtain ⟨x, hx, hxa⟩ := List.any_eq_true.1 hc
      unfold Apart at h
      rw [List.pairwise_append] at h
      rw [h.2.2 x hx a List.mem_cons_self] at hxa
      cases hxa
theorem prune_again (l : List Ru) : prune [] (prune [] l) = prune [] l := by
  have := apart_prune (prune [] l) [] (by simpa using prune_apart l [] List.Pairwise.nil)
  simpa using this
theorem wrong_false {l : List Ru} : wrongB l = false ↔ l.length ≤ 400 ∧ ∀ r ∈ l, r.val = true := by
  unfold wrongB
  simp only [Bool.or_eq_false_iff, decide_eq_false_iff_not, List.any_eq_false, Bool.not_eq_true', Bool.not_eq_false]
  exact ⟨fun h => ⟨by omega, h.2⟩, fun h => ⟨by omega, h.2⟩⟩
theorem prune_wrong {l : List Ru} (h : wrongB l = false) : wrongB (prune [] l) = false := by
  rw [wrong_false] at *
  have := prune_len l []
  rw [List.length_nil] at this
  exact ⟨by omega, prune_sub l [] (fun r => r.val = true) (fun r hr => by cases hr) h.2⟩
theorem prune_class {l : List Ru} (h : wrongB l = false) (x : Hd) : class2 (prune [] l) x = class2 l x := by
  unfold class2
  rw [prune_wrong h, h]
  have := prune_found x l []
  simpa using this

/-! ### neighbours -/
theorem swap_found {h : Hd} (u v : List Ru) {a b : Ru} (hf : ¬ (fits h a = true ∧ fits h b = true)) : found h (u ++ a :: b :: v) = found h (u ++ b :: a :: v) := by
  rcases found_two h u with h1 | h1
  · rw [found_append h1, found_append h1]
  · have h1' : (found h u).2 ≠ 0 := by rw [h1]; decide
    rw [found_none _ h1', found_none _ h1', found_cons, found_cons, found_cons, found_cons]
    by_cases ha : fits h a = true
    · by_cases hb : fits h b = true
      · exact absurd ⟨ha, hb⟩ hf
      · rw [if_pos ha, if_neg hb, if_pos ha]
    · rw [if_neg ha, if_neg ha]
theorem swap_wrong (u v : List Ru) (a b : Ru) : wrongB (u ++ a :: b :: v) = wrongB (u ++ b :: a :: v) := by
  unfold wrongB
  simp only [List.length_append, List.length_cons, List.any_append, List.any_cons]
  cases a.val <;> cases b.val <;> rfl
theorem swap_class {h : Hd} (u v : List Ru) {a b : Ru} (hf : ¬ (fits h a = true ∧ fits h b = true)) : class2 (u ++ a :: b :: v) h = class2 (u ++ b :: a :: v) h := by
  unfold class2
  rw [swap_found u v hf, swap_wrong]

/-! ### a last one that fits all -/
def rz (c : Int) : Ru := ⟨⟨0, 0, 0, 0⟩, ⟨0, 0, 0, 0⟩, 0, 0, 0, 0, 65535, c⟩
theorem in_none {x : Nat} (hx : x < 4294967296) : inB x ⟨⟨0, 0, 0, 0⟩, 0, 0⟩ = true := inB_true ⟨⟨by show (0 : Int) ≤ 0; decide, by show (0 : Int) ≤ 32; decide⟩, by
  show top x 0 = top 0 0
  unfold top
  rw [Nat.div_eq_of_lt (by simpa using hx)]⟩
theorem rz_fits {h : Hd} (hh : h.Ok) (h0 : 0 ≤ h.dp) (h1 : h.dp ≤ 65535) (c : Int) : fits h (rz c) = true := by
  unfold fits
  rw [show inB h.src.num (rz c).spf = true from in_none hh.1.lt, show inB h.dst.num (rz c).dpf = true from in_none hh.2.lt]
  simp [takes, btw, rz, h0, h1]
theorem rz_ok (c : Int) : (rz c).Ok := by
  have : (Ad.mk 0 0 0 0).Ok := ⟨⟨by decide, by decide⟩, ⟨by decide, by decide⟩, ⟨by decide, by decide⟩, by decide, by decide⟩
  exact ⟨this, this⟩
theorem all_class {h : Hd} (hh : h.Ok) (h0 : 0 ≤ h.dp) (h1 : h.dp ≤ 65535) (l : List Ru) (c : Int) (hw : wrongB (l ++ [rz c]) = false) :
    (class2 (l ++ [rz c]) h).2 = 0 ∧ (((class2 l h).2 = 0 ∧ (class2 (l ++ [rz c]) h).1 = (class2 l h).1) ∨ ((class2 l h).2 = 3 ∧ (class2 (l ++ [rz c]) h).1 = c)) := by
  unfold class2
  rw [hw, wrong_append hw]
  simp only [Bool.false_eq_true, if_false]
  rcases found_two h l with h2 | h2
  · rw [found_append h2]
    exact ⟨h2, .inl ⟨h2, rfl⟩⟩
  · have h2' : (found h l).2 ≠ 0 := by rw [h2]; decide
    rw [found_none _ h2', found_cons, if_pos (rz_fits hh h0 h1 c), h2]
    exact ⟨rfl, .inr ⟨rfl, rfl⟩⟩
/-! ### rules behind -/
theorem first_class {h : Hd} {l m : List Ru} (h1 : (class2 l h).2 = 0) (hw : wrongB (l ++ m) = false) : class2 (l ++ m) h = class2 l h := by
  have hl := wrong_append hw
  unfold class2 at *
  rw [hl] at h1
  rw [hw, hl]
  exact found_append h1
theorem class_bad {h : Hd} {l : List Ru} (hw : wrongB l = true) : class2 l h = (0, 2) := by
  unfold class2
  rw [hw]
  rfl
theorem class_good {h : Hd} {l : List Ru} (hw : wrongB l = false) : class2 l h = found h l := by
  unfold class2
  rw [hw]
  rfl
end Go.Proofs.Ytandfbepenjbhaa
