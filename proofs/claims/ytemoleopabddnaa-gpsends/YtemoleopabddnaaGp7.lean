/- Package gps, the reference's MEnd: what lies in memory. -/
import Derived.Test.YtemoleopabddnaaGp3
import Derived.Test.YtemoleopabddnaaGpEndM
import Derived.Test.YtemoleopabddnaaRat8
namespace Go.Proofs.Ytemoleopabddnaa
open Go.RowKit Go.Maps

theorem Dig.other {w w' : World} {A : Option Addr} {n k m : Nat} {f : Nat → Nat} {t : TypeId} {H : Nat → Value} (d : Dig w A n f) (hk : w.rowIs k t m H) (ht : 62 ≠ t) (ho : w.grownBy w' (some k)) : Dig w' A n f := fun h0 => by
  obtain ⟨b, q, F, hA, hq, hr, hf⟩ := d h0
  exact ⟨b, q, F, hA, hq, hr.of_block (ho.block b hr.lt (by simpa using row_ne hr hk ht)), hf⟩
theorem NumIs.other {w w' : World} {s : Bool} {A : Option Addr} {n c k m : Nat} {z : Int} {t : TypeId} {H : Nat → Value} (d : NumIs w s A n c z) (hk : w.rowIs k t m H) (ht : 62 ≠ t) (ho : w.grownBy w' (some k)) : NumIs w' s A n c z := by
  obtain ⟨f, h1, h2, hd, h3⟩ := d
  exact ⟨f, h1, h2, hd.other hk ht ho, h3⟩
theorem RatV.other {w w' : World} {g k m : Nat} {a b : Int} {t : TypeId} {H : Nat → Value} (h : RatV w g a b) (hk : w.rowIs k t m H) (ht : 62 ≠ t) (ho : w.grownBy w' (some k)) (hne : g ≠ k) : RatV w' g a b := by
  obtain ⟨hp, s, A, n, c, s', A', n', c', hr, h1, h2⟩ := h
  exact ⟨hp, s, A, n, c, s', A', n', c', hr.of_block (ho.block g hr.lt (by simpa using hne)), h1.other hk ht ho, h2.imp (fun h => h.other hk ht ho) (fun h => ⟨h.1.other hk ht ho, h.2⟩)⟩
theorem RatV.lt {w : World} {g : Nat} {a b : Int} (h : RatV w g a b) : g < w.heap.size := h.room.lt
/-- Where a fraction is written, another stays. -/
theorem RatV.apart {w w' : World} {g k : Nat} {a b : Int} (h : RatV w g a b) (hk : RatRoom w k) (ho : w.grownBy w' (some k)) (hne : g ≠ k) : RatV w' g a b := by
  obtain ⟨H, hr⟩ := hk
  exact h.other hr (by decide) ho hne
/-- Where a row of pointers is written, a fraction stays. -/
theorem RatV.set {w : World} {g k n : Nat} {a b : Int} {H : Nat → Value} (h : RatV w g a b) (hk : w.rowIs k 29 n H) (o : Nat) (u : Value) : RatV (w.setCell ⟨k, o, none⟩ u) g a b := by
  have hg := h.room
  obtain ⟨H2, hr⟩ := hg
  exact h.other hk (by decide) (grown_here (World.grownBy.refl w _) o u) (row_ne hr hk (by decide))
/-- A pointer to a fraction, or none. -/
def ptr (q : Option Nat) : Value := .pointer (q.map fun g => ⟨g, 0, none⟩)

/-- What MEnd has in memory: what is left (X / Y of each), who is done, the time (A / Dn). -/
structure MI (w wr : World) (gl ge M n : Nat) (T V : Nat → Int) (lp : Nat → Nat) (ep : Nat → Option Nat) (X Y : Nat → Int) (nb : Nat) (A Dn : Int) : Prop where
  below : Below w.heap.size w wr
  hl : w.heap.size ≤ gl
  he : w.heap.size ≤ ge
  hne : gl ≠ ge
  top : M ≤ wr.heap.size
  lrow : wr.rowIs gl 29 n (fun j => ptr (some (lp j)))
  erow : wr.rowIs ge 29 n (fun j => ptr (ep j))
  low : ∀ j, j < n → w.heap.size ≤ lp j ∧ lp j < M
  inj : ∀ i j, i < n → j < n → i ≠ j → lp i ≠ lp j
  left : ∀ j, j < n → ep j = none → RatV wr (lp j) (X j) (Y j)
  done : ∀ j g, j < n → ep j = some g → M ≤ g ∧ RatV wr g (T j) (V j)
  late : M ≤ nb
  now : RatV wr nb A Dn
namespace MI
variable {w wr W : World} {gl ge M n : Nat} {T V : Nat → Int} {lp : Nat → Nat} {ep : Nat → Option Nat} {X Y : Nat → Int} {nb : Nat} {A Dn : Int}
theorem later (h : MI w wr gl ge M n T V lp ep X Y nb A Dn) (hb : Below wr.heap.size wr W) : MI w W gl ge M n T V lp ep X Y nb A Dn :=
  ⟨h.below.trans (hb.mono h.below.size), h.hl, h.he, h.hne, Nat.le_trans h.top hb.size, h.lrow.of_block (hb.block gl h.lrow.lt), h.erow.of_block (hb.block ge h.erow.lt), h.low, h.inj,
    fun j hj e => (h.left j hj e).below hb, fun j g hj e => ⟨(h.done j g hj e).1, (h.done j g hj e).2.below hb⟩, h.late, h.now.below hb⟩
theorem lcell (h : MI w wr gl ge M n T V lp ep X Y nb A Dn) {j : Nat} (hj : j < n) : wr.cell? ⟨gl, j, none⟩ = some (.pointer (some ⟨lp j, 0, none⟩)) := h.lrow.cell hj
theorem ecell (h : MI w wr gl ge M n T V lp ep X Y nb A Dn) {j : Nat} (hj : j < n) : wr.cell? ⟨ge, j, none⟩ = some (ptr (ep j)) ∧ wr.frozen? ⟨ge, j, none⟩ = false := ⟨h.erow.cell hj, h.erow.frozen j⟩
/-- One is done. -/
theorem finish (h : MI w wr gl ge M n T V lp ep X Y nb A Dn) {k g : Nat} (hg : M ≤ g) (hr : RatV wr g (T k) (V k)) : MI w (wr.setCell ⟨ge, k, none⟩ (.pointer (some ⟨g, 0, none⟩))) gl ge M n T V lp (fun j => if j = k then some g else ep j) X Y nb A Dn := by
  refine ⟨h.below.setCell (by show w.heap.size ≤ ge; exact h.he) _, h.hl, h.he, h.hne, by simpa [World.setCell] using h.top, h.lrow.setOther (a := ⟨ge, k, none⟩) h.hne _, (h.erow.set k _).congr fun j _ => ?_, h.low, h.inj, fun j hj e => ?_, fun j g' hj e => ?_, h.late, h.now.set h.erow k _⟩
  · by_cases c : j = k
    · rw [if_pos c, if_pos c]; rfl
    · rw [if_neg c, if_neg c]
  · by_cases c : j = k
    · rw [if_pos c] at e; cases e
    · rw [if_neg c] at e
      exact (h.left j hj e).set h.erow k _
  · by_cases c : j = k
    · rw [if_pos c] at e
      injection e with e
      subst e c
      exact ⟨hg, hr.set h.erow j _⟩
    · rw [if_neg c] at e
      exact ⟨(h.done j g' hj e).1, (h.done j g' hj e).2.set h.erow k _⟩
/-- Something of what is left goes. -/
theorem move (h : MI w wr gl ge M n T V lp ep X Y nb A Dn) {k : Nat} (hk : k < n) (hko : RatRoom wr (lp k)) (ho : wr.grownBy W (some (lp k))) {x y : Int} (hr : RatV W (lp k) x y) : MI w W gl ge M n T V lp ep (fun j => if j = k then x else X j) (fun j => if j = k then y else Y j) nb A Dn := by
  have hlow := h.low k hk
  obtain ⟨Hk, hrk⟩ := id hko
  have n1 : gl ≠ lp k := row_ne h.lrow hrk (by decide)
  have n2 : ge ≠ lp k := row_ne h.erow hrk (by decide)
  refine ⟨⟨ho.os.trans h.below.os, ho.tape.trans h.below.tape, ho.output.trans h.below.output, Nat.le_trans h.below.size ho.size, fun j hj => (ho.block j (Nat.lt_of_lt_of_le hj h.below.size) (by simp; omega)).trans (h.below.block j hj)⟩, h.hl, h.he, h.hne, Nat.le_trans h.top ho.size,
    h.lrow.of_block (ho.block gl h.lrow.lt (by simpa using n1)), h.erow.of_block (ho.block ge h.erow.lt (by simpa using n2)), h.low, h.inj, fun j hj e => ?_, fun j g hj e => ⟨(h.done j g hj e).1, ?_⟩, h.late, h.now.apart hko ho (by have := h.late; omega)⟩
  · by_cases c : j = k
    · subst c
      rw [if_pos rfl, if_pos rfl]
      exact hr
    · rw [if_neg c, if_neg c]
      exact (h.left j hj e).apart hko ho (h.inj j k hj hk c)
  · have := (h.done j g hj e).1
    exact (h.done j g hj e).2.apart hko ho (by omega)
theorem clock (h : MI w wr gl ge M n T V lp ep X Y nb A Dn) {nb' : Nat} {A' Dn' : Int} (hn : M ≤ nb') (hr : RatV wr nb' A' Dn') : MI w wr gl ge M n T V lp ep X Y nb' A' Dn' :=
  ⟨h.below, h.hl, h.he, h.hne, h.top, h.lrow, h.erow, h.low, h.inj, h.left, h.done, hn, hr⟩
theorem levels (h : MI w wr gl ge M n T V lp ep X Y nb A Dn) {X' Y' : Nat → Int} (e : ∀ j, j < n → ep j = none → X j = X' j ∧ Y j = Y' j) : MI w wr gl ge M n T V lp ep X' Y' nb A Dn :=
  ⟨h.below, h.hl, h.he, h.hne, h.top, h.lrow, h.erow, h.low, h.inj, fun j hj e' => by
    obtain ⟨e1, e2⟩ := e j hj e'
    rw [← e1, ← e2]
    exact h.left j hj e', h.done, h.late, h.now⟩
end MI
/-- The rows at the beginning, i fractions made. -/
structure LI (w wr : World) (gl ge n i : Nat) (b : Nat → Int) (lp : Nat → Nat) : Prop where
  below : Below w.heap.size w wr
  hl : w.heap.size ≤ gl
  he : w.heap.size ≤ ge
  hne : gl ≠ ge
  lrow : wr.rowIs gl 29 n (fun j => ptr (if j < i then some (lp j) else none))
  erow : wr.rowIs ge 29 n (fun _ => ptr none)
  low : ∀ j, j < i → w.heap.size ≤ lp j ∧ lp j < wr.heap.size
  inc : ∀ j k, j < k → k < i → lp j < lp k
  left : ∀ j, j < i → RatV wr (lp j) (b j) 1
namespace LI
variable {w wr W : World} {gl ge n i : Nat} {b : Nat → Int} {lp : Nat → Nat}
theorem later (h : LI w wr gl ge n i b lp) (hb : Below wr.heap.size wr W) : LI w W gl ge n i b lp :=
  ⟨h.below.trans (hb.mono h.below.size), h.hl, h.he, h.hne, h.lrow.of_block (hb.block gl h.lrow.lt), h.erow.of_block (hb.block ge h.erow.lt), fun j hj => ⟨(h.low j hj).1, Nat.lt_of_lt_of_le (h.low j hj).2 hb.size⟩, h.inc, fun j hj => (h.left j hj).below hb⟩
theorem seat (h : LI w wr gl ge n i b lp) (hi : i < n) : wr.cell? ⟨gl, i, none⟩ = some (.pointer none) ∧ wr.frozen? ⟨gl, i, none⟩ = false := by
  refine ⟨?_, h.lrow.frozen i⟩
  rw [h.lrow.cell hi, if_neg (by omega)]
  rfl
/-- A fraction that was made behind wr, at W. -/
theorem next (h : LI w wr gl ge n i b lp) (hb : Below wr.heap.size wr W) {g : Nat} (hg : wr.heap.size ≤ g) (hr : RatV W g (b i) 1) : LI w (W.setCell ⟨gl, i, none⟩ (.pointer (some ⟨g, 0, none⟩))) gl ge n (i + 1) b (fun j => if j = i then g else lp j) := by
  have k := h.later hb
  have hlt := hr.lt
  refine ⟨k.below.setCell (by show w.heap.size ≤ gl; exact k.hl) _, k.hl, k.he, k.hne, (k.lrow.set i _).congr fun j _ => ?_, k.erow.setOther (a := ⟨gl, i, none⟩) (fun e => k.hne e.symm) _, fun j hj => ?_, fun j q hjq hq => ?_, fun j hj => ?_⟩
  · by_cases c : j = i
    · rw [if_pos c, if_pos (show j < i + 1 by omega), if_pos c]; rfl
    · rw [if_neg c, if_neg c]
      by_cases c2 : j < i
      · rw [if_pos c2, if_pos (by omega)]
      · rw [if_neg c2, if_neg (by omega)]
  · have hs : (W.setCell ⟨gl, i, none⟩ (.pointer (some ⟨g, 0, none⟩))).heap.size = W.heap.size := by simp [World.setCell]
    rw [hs]
    by_cases c : j = i
    · rw [if_pos c]; exact ⟨Nat.le_trans h.below.size hg, hlt⟩
    · rw [if_neg c]; exact k.low j (by omega)
  · by_cases c : q = i
    · rw [if_pos c, if_neg (by omega)]
      exact Nat.lt_of_lt_of_le (h.low j (by omega)).2 hg
    · rw [if_neg c, if_neg (by omega)]
      exact k.inc j q hjq (by omega)
  · by_cases c : j = i
    · subst c
      rw [if_pos rfl]
      exact hr.set k.lrow j _
    · rw [if_neg c]
      exact (k.left j (by omega)).set k.lrow i _
/-- All are made; a fraction for the time behind them. -/
theorem start (h : LI w wr gl ge n n b lp) (T V : Nat → Int) (hb : Below wr.heap.size wr W) (hr : RatV W wr.heap.size 0 1) : MI w W gl ge wr.heap.size n T V lp (fun _ => none) b (fun _ => 1) wr.heap.size 0 1 := by
  have k := h.later hb
  refine ⟨k.below, k.hl, k.he, k.hne, hb.size, k.lrow.congr fun j hj => by rw [if_pos hj], k.erow, fun j hj => h.low j hj, fun i j hi hj hne => ?_, fun j hj _ => k.left j hj, fun j g hj e => (by cases e), Nat.le_refl _, hr⟩
  rcases Nat.lt_or_gt_of_ne hne with c | c
  · have := h.inc i j c hj; omega
  · have := h.inc j i c hi; omega
end LI
/-- What MEnd answers: for each, when it is done. -/
def Ended (w : World) (n : Nat) (T V : Nat → Int) (e : Ending) (w' : World) : Prop :=
  ∃ (ge : Nat) (ep : Nat → Nat), e = .returned (.slice (some ⟨ge, 0, none⟩) n n) ∧ Below w.heap.size w w' ∧ w'.rowIs ge 29 n (fun j => .pointer (some ⟨ep j, 0, none⟩)) ∧ ∀ j, j < n → RatV w' (ep j) (T j) (V j)
theorem MI.ended {w wr : World} {gl ge M n : Nat} {T V : Nat → Int} {lp : Nat → Nat} {ep : Nat → Option Nat} {X Y : Nat → Int} {nb : Nat} {A Dn : Int} (h : MI w wr gl ge M n T V lp ep X Y nb A Dn) (ha : ∀ j, j < n → ep j ≠ none) : Ended w n T V (.returned (.slice (some ⟨ge, 0, none⟩) n n)) wr := by
  have hg : ∀ j, j < n → ep j = some ((ep j).getD 0) := fun j hj => by
    have := ha j hj
    cases e : ep j with
    | none => exact absurd e this
    | some g => rfl
  refine ⟨ge, fun j => (ep j).getD 0, rfl, h.below, h.erow.congr fun j hj => ?_, fun j hj => (h.done j _ hj (hg j hj)).2⟩
  show ptr (ep j) = .pointer (some ⟨(ep j).getD 0, 0, none⟩)
  rw [hg j hj]
  rfl
/-- The nearest so far. -/
def Nx (wr : World) (M : Nat) (b v : Nat → Int) (N D : Int) (i : Nat) (q : Option Nat) : Prop :=
  (q = none ∧ ∀ j, j < i → ¬ opn b v N D j) ∨ ∃ g m, q = some g ∧ m < i ∧ Near b v N D i m ∧ M ≤ g ∧ RatV wr g (rst b v N D m) (D * v m)
namespace Nx
variable {wr W : World} {M i : Nat} {b v : Nat → Int} {N D : Int} {q : Option Nat}
theorem start (wr : World) (M : Nat) (b v : Nat → Int) (N D : Int) : Nx wr M b v N D 0 none := .inl ⟨rfl, fun j hj => by omega⟩
theorem later (h : Nx wr M b v N D i q) (hb : Below wr.heap.size wr W) : Nx W M b v N D i q := by
  rcases h with h | ⟨g, m, e, hm, hn, hg, hr⟩
  · exact .inl h
  · exact .inr ⟨g, m, e, hm, hn, hg, hr.below hb⟩
theorem skip (h : Nx wr M b v N D i q) (c : ¬ opn b v N D i) : Nx wr M b v N D (i + 1) q := by
  rcases h with ⟨e, h⟩ | ⟨g, m, e, hm, hn, hg, hr⟩
  · refine .inl ⟨e, fun j hj => ?_⟩
    by_cases c2 : j = i
    · rw [c2]; exact c
    · exact h j (by omega)
  · refine .inr ⟨g, m, e, by omega, ⟨hn.open_, fun j hj ho => ?_⟩, hg, hr⟩
    by_cases c2 : j = i
    · rw [c2] at ho; exact absurd ho c
    · exact hn.least j (by omega) ho
theorem first (h : Nx wr M b v N D i none) (c : opn b v N D i) {g : Nat} (hg : M ≤ g) (hr : RatV wr g (rst b v N D i) (D * v i)) : Nx wr M b v N D (i + 1) (some g) := by
  rcases h with ⟨_, h⟩ | ⟨g, m, e, _⟩
  · refine .inr ⟨g, i, rfl, by omega, ⟨c, fun j hj ho => ?_⟩, hg, hr⟩
    by_cases c2 : j = i
    · rw [c2]; exact Int.le_refl _
    · exact absurd ho (h j (by omega))
  · cases e
theorem nearer {m g' : Nat} (hn : Near b v N D i m) (hv : ∀ j, j < i + 1 → 1 ≤ v j) (hm : m < i) (c : opn b v N D i) (hlt : b i * v m < b m * v i) (hg : M ≤ g') (hr : RatV wr g' (rst b v N D i) (D * v i)) : Nx wr M b v N D (i + 1) (some g') := by
  refine .inr ⟨g', i, rfl, by omega, ⟨c, fun j hj ho => ?_⟩, hg, hr⟩
  by_cases c2 : j = i
  · rw [c2]; exact Int.le_refl _
  · have h1 := hn.least j (by omega) ho
    exact (cross_le (hv i (by omega)) (hv m (by omega)) (hv j (by omega)) (by omega) h1).1
theorem farther {m g : Nat} (hn : Near b v N D i m) (hm : m < i) (hge : b m * v i ≤ b i * v m) (hg : M ≤ g) (hr : RatV wr g (rst b v N D m) (D * v m)) : Nx wr M b v N D (i + 1) (some g) := by
  refine .inr ⟨g, m, rfl, by omega, ⟨hn.open_, fun j hj ho => ?_⟩, hg, hr⟩
  by_cases c2 : j = i
  · rw [c2]; exact hge
  · exact hn.least j (by omega) ho
end Nx
end Go.Proofs.Ytemoleopabddnaa
