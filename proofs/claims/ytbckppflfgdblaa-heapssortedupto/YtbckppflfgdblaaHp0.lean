/- How the queue of package heaps lies in memory: notions and plain facts. -/
import Derived.Test.YtbckppflfgdblaaHpMath
import Derived.Test.YtbckppflfgdblaaHpCmp
import Derived.Deep.OwnRows
import Derived.Maps.OwnSet
namespace Go.Proofs.Ytbckppflfgdblaa
open Go.RowKit Go.Maps

/-- Only blocks of S, and what is new, have turned. -/
structure Chg (S : Nat → Prop) (w w' : World) : Prop where
  os : w'.os = w.os
  tape : w'.tape = w.tape
  output : w'.output = w.output
  size : w.heap.size ≤ w'.heap.size
  block : ∀ k, k < w.heap.size → ¬ S k → w'.heap[k]? = w.heap[k]?
namespace Chg
variable {S T : Nat → Prop} {a b c : World}
theorem refl (S : Nat → Prop) (w : World) : Chg S w w := ⟨rfl, rfl, rfl, Nat.le_refl _, fun _ _ _ => rfl⟩
theorem trans (h : Chg S a b) (k : Chg S b c) : Chg S a c := ⟨k.os.trans h.os, k.tape.trans h.tape, k.output.trans h.output, Nat.le_trans h.size k.size, fun i hi hn => (k.block i (Nat.lt_of_lt_of_le hi h.size) hn).trans (h.block i hi hn)⟩
theorem mono (h : Chg S a b) (hs : ∀ k, k < a.heap.size → S k → T k) : Chg T a b := ⟨h.os, h.tape, h.output, h.size, fun i hi hn => h.block i hi (fun hS => hn (hs i hi hS))⟩
theorem of_below (h : Below a.heap.size a b) (S : Nat → Prop) : Chg S a b := ⟨h.os, h.tape, h.output, h.size, fun i hi _ => h.block i hi⟩
theorem of_grown {r : Option Nat} (h : a.grownBy b r) (hs : ∀ k, r = some k → S k) : Chg S a b := ⟨h.os, h.tape, h.output, h.size, fun i hi hn => h.block i hi (fun e => hn (hs i e.symm))⟩
theorem drewN (h : Chg S a b) (n : Nat) : Chg S a (b.drewN n) := ⟨h.os, h.tape, h.output, h.size, h.block⟩
theorem drew (h : Chg S a b) : Chg S a b.drew := ⟨h.os, h.tape, h.output, h.size, h.block⟩
theorem alloc (h : Chg S a b) (o : Obj) : Chg S a (b.alloc o) :=
  ⟨h.os, h.tape, h.output, Nat.le_trans h.size (by simp), fun i hi hn => (Below.heap_alloc b o i (Nat.lt_of_lt_of_le hi h.size)).trans (h.block i hi hn)⟩
theorem set (h : Chg S a b) {p : Addr} (hp : S p.block ∨ a.heap.size ≤ p.block) (u : Value) : Chg S a (b.setCell p u) :=
  ⟨h.os, h.tape, h.output, by simpa [World.setCell] using h.size, fun i hi hn => (Below.heap_setCell b p u i (by rcases hp with hp | hp <;> (intro e; subst e; first | exact hn hp | omega))).trans (h.block i hi hn)⟩
theorem below (h : Chg S a b) {B : Nat} (hB : B ≤ a.heap.size) (hs : ∀ k, S k → B ≤ k) : Below B a b :=
  ⟨h.os, h.tape, h.output, h.size, fun k hk => h.block k (by omega) (fun hS => by have := hs k hS; omega)⟩
end Chg

theorem bcell {W w1 : World} (hb : Below W.heap.size W w1) : (∀ b o, b < W.heap.size → w1.cell? ⟨b, o, none⟩ = W.cell? ⟨b, o, none⟩) ∧ (∀ b o, b < W.heap.size → w1.frozen? ⟨b, o, none⟩ = W.frozen? ⟨b, o, none⟩) :=
  ⟨fun _ _ h => hb.cell (p := ⟨_, _, none⟩) h, fun _ _ h => hb.frozen (p := ⟨_, _, none⟩) h⟩

/-! ### the map of places -/
theorem Try.underlying3 : Try.prog.underlying 3 = some (.int .i64) := by kernel_rfl
theorem Try.underlying52 : Try.prog.underlying 52 = some (.map 3 3) := by kernel_rfl
theorem keyed : Keyed Try.prog 3 := int_keyed Try.underlying3
theorem zero3 (w : World) : (zeroValue 3).run Try.prog w = .ok (.int .i64 0) w := by kernel_rfl
def I64 (x : Int) : Prop := (Lit.int .i64 x).wf = true
theorem I64.of {x : Int} (h0 : -9223372036854775808 ≤ x) (h1 : x ≤ 9223372036854775807) : I64 x := WalkArith.wf_i64 (by omega)

/-- The map in block b holds n entries, those of p. -/
def MapIs (w : World) (b n : Nat) (p : Places) : Prop :=
  ∃ D : DataW Unit, w.ownsMap Try.prog 3 (plainElem Try.prog 3) b n D ∧ Maps.size D = n ∧
    ∀ x, I64 x → Maps.has D (.int .i64 x) = (p x).isSome ∧ ∀ v, p x = some v → D.atKey (.int .i64 x) (.lit (.int .i64 0)) = .lit (.int .i64 v)

/-- Item x lies at place j of a row of cells. -/
def ItAt (F : Nat → Value) (j : Nat) (x : It) : Prop := F (j * 3) = .int .i64 x.id ∧ F (j * 3 + 1) = .int .u64 x.hi ∧ F (j * 3 + 2) = .int .u64 x.lo
def tri (a b c : Value) : Nat → Value := fun j => if j = 0 then a else if j = 1 then b else c

/-- Block q is a queue: items f, n of them, in block g, of capacity cap; their places in block m; P: what has been popped. -/
structure QH (w : World) (q g m cap n : Nat) (P : Value) (f : Nat → It) : Prop where
  row : w.rowIs q 55 3 (tri (.slice (some ⟨g, 0, none⟩) n cap) (.map (some m)) P)
  ncap : n ≤ cap
  capm : cap ≤ 9223372036854775807
  nmax : n ≤ 5000000000000
  items : ∃ F, w.rowIs g 71 (cap * 3) F ∧ ∀ j, j < n → ItAt F j (f j)
  ids : ∀ j, j < n → I64 (f j).id
  place : ∃ p, MapIs w m n p ∧ PlaceOk p f n

theorem row_ne {w : World} {b g n m : Nat} {t u : TypeId} {f h : Nat → Value} (h1 : w.rowIs b t n f) (h2 : w.rowIs g u m h) (hne : t ≠ u) : b ≠ g := by
  rintro rfl
  obtain ⟨c, hc, _⟩ := h1
  obtain ⟨d, hd, _⟩ := h2
  rw [hc] at hd
  injection hd with hd
  injection hd with _ ht
  exact hne ht
theorem row_ne_map {w : World} {b g n m : Nat} {t : TypeId} {f : Nat → Value} {p : Places} (h1 : w.rowIs b t n f) (h2 : MapIs w g m p) : b ≠ g := by
  rintro rfl
  obtain ⟨c, hc, _⟩ := h1
  obtain ⟨D, ⟨es, clock, hb, _⟩, _⟩ := h2
  rw [hc] at hb
  injection hb with hb
  cases hb

namespace QH
variable {w : World} {q g m cap n : Nat} {P : Value} {f : Nat → It}
theorem c0 (h : QH w q g m cap n P f) : w.cell? ⟨q, 0, none⟩ = some (.slice (some ⟨g, 0, none⟩) n cap) := h.row.cell (by omega)
theorem c1 (h : QH w q g m cap n P f) : w.cell? ⟨q, 1, none⟩ = some (.map (some m)) := h.row.cell (by omega)
theorem c2 (h : QH w q g m cap n P f) : w.cell? ⟨q, 2, none⟩ = some P := h.row.cell (by omega)
theorem fz (h : QH w q g m cap n P f) (j : Nat) : w.frozen? ⟨q, j, none⟩ = false := h.row.frozen j
theorem gz (h : QH w q g m cap n P f) (j : Nat) : w.frozen? ⟨g, j, none⟩ = false := by obtain ⟨F, hF, _⟩ := h.items; exact hF.frozen j
theorem it (h : QH w q g m cap n P f) {j : Nat} (hj : j < n) : w.cell? ⟨g, j * 3, none⟩ = some (.int .i64 (f j).id) ∧ w.cell? ⟨g, j * 3 + 1, none⟩ = some (.int .u64 (f j).hi) ∧ w.cell? ⟨g, j * 3 + 2, none⟩ = some (.int .u64 (f j).lo) := by
  obtain ⟨F, hF, hf⟩ := h.items
  have hc := h.ncap
  obtain ⟨a, b, c⟩ := hf j hj
  exact ⟨by rw [hF.cell (by omega), a], by rw [hF.cell (by omega), b], by rw [hF.cell (by omega), c]⟩
theorem qg (h : QH w q g m cap n P f) : q ≠ g := by obtain ⟨F, hF, _⟩ := h.items; exact row_ne h.row hF (by decide)
theorem qm (h : QH w q g m cap n P f) : q ≠ m := by obtain ⟨p, hp, _⟩ := h.place; exact row_ne_map h.row hp
theorem gm (h : QH w q g m cap n P f) : g ≠ m := by obtain ⟨F, hF, _⟩ := h.items; obtain ⟨p, hp, _⟩ := h.place; exact row_ne_map hF hp
end QH

end Go.Proofs.Ytbckppflfgdblaa
