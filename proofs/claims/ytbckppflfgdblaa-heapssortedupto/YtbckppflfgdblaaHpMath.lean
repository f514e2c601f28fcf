/- A binary heap over plain functions: what moving an item up or down does, and what the queue holds. Plain mathematics. -/
import Derived.Lib.Hide
namespace Go.Proofs.Ytbckppflfgdblaa

structure It where
  id : Int
  hi : Int
  lo : Int
theorem It.same {a b : It} (h1 : a.id = b.id) (h2 : a.hi = b.hi) (h3 : a.lo = b.lo) : a = b := by
  cases a; cases b; simp_all
def It.key (a : It) : Int × Int := (a.hi, a.lo)

/-- a comes before b. -/
def Bef (a b : It) : Prop := a.hi < b.hi ∨ (a.hi = b.hi ∧ (a.lo < b.lo ∨ (a.lo = b.lo ∧ a.id < b.id)))
instance (a b : It) : Decidable (Bef a b) := by unfold Bef; infer_instance
def bef (a b : It) : Bool := decide (Bef a b)
theorem Bef.irrefl (a : It) : ¬ Bef a a := by unfold Bef; omega
theorem Bef.asymm {a b : It} (h : Bef a b) : ¬ Bef b a := by unfold Bef at *; omega
theorem Bef.trans {a b c : It} (h : Bef a b) (k : Bef b c) : Bef a c := by unfold Bef at *; omega
theorem nbef_trans {a b c : It} (h : ¬ Bef b a) (k : ¬ Bef c b) : ¬ Bef c a := by unfold Bef at *; omega
theorem Bef.tri {a b : It} (h : ¬ Bef a b) (k : ¬ Bef b a) : a = b := It.same (by unfold Bef at *; omega) (by unfold Bef at *; omega) (by unfold Bef at *; omega)
theorem bef_true {a b : It} : bef a b = true ↔ Bef a b := by simp [bef]
theorem bef_false {a b : It} : bef a b = false ↔ ¬ Bef a b := by simp [bef]

/-! ### swaps -/
def swp (f : Nat → It) (i j : Nat) : Nat → It := fun k => if k = i then f j else if k = j then f i else f k
theorem swp_l (f : Nat → It) (i j : Nat) : swp f i j i = f j := by simp [swp]
theorem swp_r (f : Nat → It) (i j : Nat) : swp f i j j = f i := by unfold swp; by_cases h : j = i <;> simp [h]
theorem swp_o (f : Nat → It) {i j k : Nat} (h1 : k ≠ i) (h2 : k ≠ j) : swp f i j k = f k := by simp [swp, h1, h2]
theorem swp_self (f : Nat → It) (i : Nat) : swp f i i = f := by
  funext k; unfold swp; split <;> simp_all

def par (j : Nat) : Nat := (j - 1) / 2
def Heap (f : Nat → It) (n : Nat) : Prop := ∀ j, 0 < j → j < n → ¬ Bef (f j) (f (par j))
/-- A heap but for the item at k. -/
structure HB (f : Nat → It) (n k : Nat) : Prop where
  edge : ∀ j, 0 < j → j < n → j ≠ k → par j ≠ k → ¬ Bef (f j) (f (par j))
  over : ∀ j, 0 < j → j < n → par j = k → 0 < k → ¬ Bef (f j) (f (par k))
/-- .. and it does not come before its parent. -/
def Up (f : Nat → It) (k : Nat) : Prop := 0 < k → ¬ Bef (f k) (f (par k))

theorem par_lt {j : Nat} (h : 0 < j) : par j < j := by unfold par; omega
theorem par_ne {j : Nat} (h : 0 < j) : par j ≠ j := by have := par_lt h; omega

theorem Heap.hb {f : Nat → It} {n : Nat} (h : Heap f n) (k : Nat) (x : It) : HB (fun j => if j = k then x else f j) n k := by
  constructor
  · intro j h0 h1 h2 h3
    simp only [h2, h3, if_false]
    exact h j h0 h1
  · intro j h0 h1 h2 h3
    have e1 : j ≠ k := by have := par_lt h0; omega
    have e2 : par k ≠ k := par_ne h3
    simp only [e1, e2, if_false]
    have e3 := h j h0 h1
    rw [h2] at e3
    exact nbef_trans (h k h3 (by have := par_lt h0; omega)) e3

/-- Up: the item at k comes before its parent; they change places. -/
theorem HB.up {f : Nat → It} {n k : Nat} (h : HB f n k) (h0 : 0 < k) (hk : k < n) (hb : Bef (f k) (f (par k))) : HB (swp f k (par k)) n (par k) := by
  have pk := par_lt h0
  constructor
  · intro j j0 j1 j2 j3
    have pj := par_lt j0
    by_cases e : j = k
    · subst e; exact absurd rfl j3
    · by_cases e2 : par j = k
      · rw [swp_o f e j2, e2, swp_l]
        exact h.over j j0 j1 e2 h0
      · rw [swp_o f e j2, swp_o f e2 j3]
        exact h.edge j j0 j1 e e2
  · intro j j0 j1 j2 j3
    have pp := par_lt j3
    rw [swp_o f (k := par (par k)) (by omega) (by omega)]
    have hp : ¬ Bef (f (par k)) (f (par (par k))) := h.edge (par k) j3 (by omega) (by omega) (by omega)
    by_cases e : j = k
    · subst e; rw [swp_l]; exact hp
    · have pj := par_lt j0
      rw [swp_o f e (by omega)]
      have hj : ¬ Bef (f j) (f (par k)) := by
        have := h.edge j j0 j1 e (by omega)
        rwa [j2] at this
      exact nbef_trans hp hj

/-- Down: c is the first of k's children, and comes before k; they change places. -/
theorem HB.down {f : Nat → It} {n k c : Nat} (h : HB f n k) (c0 : 0 < c) (c1 : c < n) (cp : par c = k) (hb : Bef (f c) (f k)) (hs : ∀ j, 0 < j → j < n → par j = k → ¬ Bef (f j) (f c)) : HB (swp f k c) n c ∧ Up (swp f k c) c := by
  have ck := par_lt c0
  refine ⟨⟨?_, ?_⟩, ?_⟩
  · intro j j0 j1 j2 j3
    have pj := par_lt j0
    by_cases e : j = k
    · subst e
      rw [swp_l, swp_o f (by omega) (by omega)]
      exact h.over c c0 c1 cp j0
    · rw [swp_o f e j2]
      by_cases e2 : par j = k
      · rw [e2, swp_l]
        exact hs j j0 j1 e2
      · rw [swp_o f e2 j3]
        exact h.edge j j0 j1 e e2
  · intro j j0 j1 j2 j3
    have pj := par_lt j0
    rw [cp, swp_l, swp_o f (k := j) (by omega) (by omega)]
    have := h.edge j j0 j1 (by omega) (by omega)
    rwa [j2] at this
  · intro _
    rw [cp, swp_l, swp_r]
    exact hb.asymm

theorem HB.done {f : Nat → It} {n k : Nat} (h : HB f n k) (hu : Up f k) (hd : ∀ j, 0 < j → j < n → par j = k → ¬ Bef (f j) (f k)) : Heap f n := by
  intro j j0 j1
  by_cases e : j = k
  · subst e; exact hu j0
  · by_cases e2 : par j = k
    · rw [e2]; exact hd j j0 j1 e2
    · exact h.edge j j0 j1 e e2

theorem Heap.least {f : Nat → It} {n : Nat} (h : Heap f n) : ∀ j, j < n → ¬ Bef (f j) (f 0) := by
  intro j
  induction j using Nat.strongRecOn with
  | ind j ih =>
    intro hj
    rcases Nat.eq_zero_or_pos j with rfl | h0
    · exact Bef.irrefl _
    · exact nbef_trans (ih (par j) (par_lt h0) (by have := par_lt h0; omega)) (h j h0 hj)

/-! ### what the queue holds -/
abbrev Held := Int → Option (Int × Int)
structure Rep (f : Nat → It) (n : Nat) (M : Held) : Prop where
  held : ∀ j, j < n → M (f j).id = some (f j).key
  all : ∀ x k, M x = some k → ∃ j, j < n ∧ (f j).id = x
  one : ∀ i j, i < n → j < n → (f i).id = (f j).id → i = j

theorem swp_at {f : Nat → It} {i j n : Nat} (hi : i < n) (hj : j < n) (k : Nat) (hk : k < n) : ∃ k', k' < n ∧ swp f i j k = f k' ∧ (k = i → k' = j) ∧ (k ≠ i → k = j → k' = i) ∧ (k ≠ i → k ≠ j → k' = k) := by
  by_cases e : k = i
  · exact ⟨j, hj, by rw [e, swp_l], fun _ => rfl, fun h => absurd e h, fun h => absurd e h⟩
  · by_cases e2 : k = j
    · exact ⟨i, hi, by rw [e2, swp_r], fun h => absurd h e, fun _ _ => rfl, fun _ h => absurd e2 h⟩
    · exact ⟨k, hk, swp_o f e e2, fun h => absurd h e, fun _ h => absurd h e2, fun _ _ => rfl⟩

theorem Rep.swp {f : Nat → It} {n : Nat} {M : Held} (h : Rep f n M) {i j : Nat} (hi : i < n) (hj : j < n) : Rep (swp f i j) n M := by
  refine ⟨fun k hk => ?_, fun x kk hx => ?_, fun a b ha hb he => ?_⟩
  · obtain ⟨k', h1, h2, _⟩ := swp_at (f := f) hi hj k hk
    rw [h2]; exact h.held k' h1
  · obtain ⟨k, hk, hx⟩ := h.all x kk hx
    by_cases e : k = i
    · exact ⟨j, hj, by rw [swp_r, ← e]; exact hx⟩
    · by_cases e2 : k = j
      · exact ⟨i, hi, by rw [swp_l, ← e2]; exact hx⟩
      · exact ⟨k, hk, by rw [swp_o f e e2]; exact hx⟩
  · obtain ⟨a', a1, a2, a3, a4, a5⟩ := swp_at (f := f) hi hj a ha
    obtain ⟨b', b1, b2, b3, b4, b5⟩ := swp_at (f := f) hi hj b hb
    rw [a2, b2] at he
    have e := h.one a' b' a1 b1 he
    by_cases ai : a = i
    · have := a3 ai
      by_cases bi : b = i
      · omega
      · by_cases bj : b = j
        · have := b4 bi bj; omega
        · have := b5 bi bj; omega
    · by_cases aj : a = j
      · have := a4 ai aj
        by_cases bi : b = i
        · have := b3 bi; omega
        · by_cases bj : b = j
          · omega
          · have := b5 bi bj; omega
      · have := a5 ai aj
        by_cases bi : b = i
        · have := b3 bi; omega
        · by_cases bj : b = j
          · have := b4 bi bj; omega
          · have := b5 bi bj; omega

/-! ### the places -/
abbrev Places := Int → Option Int
def PlaceOk (m : Places) (f : Nat → It) (n : Nat) : Prop := ∀ x v, m x = some v ↔ ∃ j, j < n ∧ (f j).id = x ∧ v = (j : Int)
def upd (m : Places) (x v : Int) : Places := fun y => if y = x then some v else m y
def del (m : Places) (x : Int) : Places := fun y => if y = x then none else m y
theorem PlaceOk.one {m : Places} {f : Nat → It} {n : Nat} (h : PlaceOk m f n) {i j : Nat} (hi : i < n) (hj : j < n) (he : (f i).id = (f j).id) : i = j := by
  have h1 := (h (f i).id i).2 ⟨i, hi, rfl, rfl⟩
  have h2 := (h (f i).id j).2 ⟨j, hj, he.symm, rfl⟩
  rw [h1] at h2
  injection h2 with h2
  omega
theorem PlaceOk.at {m : Places} {f : Nat → It} {n : Nat} (h : PlaceOk m f n) {j : Nat} (hj : j < n) : m (f j).id = some (j : Int) := (h _ _).2 ⟨j, hj, rfl, rfl⟩
theorem PlaceOk.swp {m : Places} {f : Nat → It} {n : Nat} (h : PlaceOk m f n) {i j : Nat} (hi : i < n) (hj : j < n) : PlaceOk (upd (upd m (f j).id i) (f i).id j) (swp f i j) n := by
  intro x v
  unfold upd
  by_cases e1 : x = (f i).id
  · subst e1
    simp only [if_true, Option.some.injEq]
    constructor
    · rintro rfl; exact ⟨j, hj, by rw [swp_r], rfl⟩
    · rintro ⟨k, hk, h1, rfl⟩
      obtain ⟨k', a1, a2, a3, a4, a5⟩ := swp_at (f := f) hi hj k hk
      rw [a2] at h1
      have := h.one a1 hi h1
      by_cases ki : k = i
      · have := a3 ki; omega
      · by_cases kj : k = j
        · omega
        · have := a5 ki kj; omega
  · by_cases e2 : x = (f j).id
    · subst e2
      simp only [e1, if_false, if_true, Option.some.injEq]
      constructor
      · rintro rfl; exact ⟨i, hi, by rw [swp_l], rfl⟩
      · rintro ⟨k, hk, h1, rfl⟩
        obtain ⟨k', a1, a2, a3, a4, a5⟩ := swp_at (f := f) hi hj k hk
        rw [a2] at h1
        have := h.one a1 hj h1
        by_cases ki : k = i
        · omega
        · by_cases kj : k = j
          · have := a4 ki kj
            have : i = j := by omega
            subst this; omega
          · have := a5 ki kj; omega
    · simp only [e1, e2, if_false]
      rw [h x v]
      constructor
      · rintro ⟨k, hk, h1, rfl⟩
        refine ⟨k, hk, ?_, rfl⟩
        rw [swp_o f (fun e => e1 (by rw [← h1, e])) (fun e => e2 (by rw [← h1, e]))]
        exact h1
      · rintro ⟨k, hk, h1, rfl⟩
        obtain ⟨k', a1, a2, a3, a4, a5⟩ := swp_at (f := f) hi hj k hk
        rw [a2] at h1
        by_cases ki : k = i
        · exact absurd (by rw [← h1, a3 ki]) e2
        · by_cases kj : k = j
          · exact absurd (by rw [← h1, a4 ki kj]) e1
          · exact ⟨k, hk, by rw [← h1, a5 ki kj], rfl⟩

end Go.Proofs.Ytbckppflfgdblaa
