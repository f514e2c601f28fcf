/- HeapsUpdate's parts: Play over a copy of the operations with some more behind it. -/
import Derived.Test.YtbckppflfgdblaaHp16
import Derived.Test.YtbckppflfgdblaaHpGood
namespace Go.Proofs.Ytbckppflfgdblaa
open Go.RowKit Go.Maps

/-- What Play gave: error codes, what was popped, what is left. -/
def Res (os : List Op4) (w1 : World) (E P L : Value) (w : World) : Prop :=
  NumsIs 28 0 w E (run q0 os).1 ∧ NumsIs 3 0 w P (run q0 os).2.1 ∧ NumsIs 3 0 w L (drainF (run q0 os).2.2.n (run q0 os).2.2.M) ∧ Below w1.heap.size w1 w
theorem Res.below {os : List Op4} {w1 w w' : World} {E P L : Value} (h : Res os w1 E P L w) (hb : Below w.heap.size w w') : Res os w1 E P L w' :=
  ⟨h.1.below hb, h.2.1.below hb, h.2.2.1.below hb, h.2.2.2.trans (hb.mono h.2.2.2.size)⟩
theorem nums_base {t : TypeId} {B : Nat} {w : World} {v : Value} {xs : List Int} (h : NumsIs t B w v xs) : NumsIs t 0 w v xs := ⟨h.1, h.2.imp id (fun ⟨g, cap, cur, a, _, c⟩ => ⟨g, cap, cur, a, Nat.zero_le _, c⟩)⟩
theorem ops_base {B B' : Nat} {w : World} {v : Value} {os : List Op4} (h : OwnOps B w v os) (hB : B' ≤ B) : OwnOps B' w v os := ⟨h.1, h.2.imp id (fun ⟨g, cap, cur, a, b, c⟩ => ⟨g, cap, cur, a, Nat.le_trans hB b, c⟩)⟩

/-- What is known of the operations that came in. -/
structure Came (w : World) (A : Option Addr) (cap b off : Nat) (os : List Op4) : Prop where
  ops : OpsAt w b off os
  lt : 0 < os.length → b < w.heap.size
  at_ : (∃ a, A = some a ∧ (0 < os.length → a = ⟨b, off, none⟩)) ∨ (A = none ∧ os = [] ∧ cap = 0)
  ids : ∀ o ∈ os, I64 o.id
  size : os.length * 32 + 4096 ≤ 140737488355328
theorem Came.below {w w' : World} {A : Option Addr} {cap b off : Nat} {os : List Op4} (h : Came w A cap b off os) (hb : Below w.heap.size w w') : Came w' A cap b off os :=
  ⟨h.ops.below hb h.lt, fun h0 => Nat.lt_of_lt_of_le (h.lt h0) hb.size, h.at_, h.ids, h.size⟩

theorem play_own {w1 w : World} {v : Value} {os : List Op4} (h : OwnOps w1.heap.size w v os) (hid : ∀ o ∈ os, I64 o.id) (hn : os.length + 1 ≤ 5000000000000) (hb : Below w1.heap.size w1 w) :
    Calls Try.prog 8 #[v] w fun e w' => ∃ E P L, e = .returned (.tuple #[E, P, L]) ∧ Res os w1 E P L w' := by
  obtain ⟨A, cap, g, rfl, h1, h2, h3⟩ := h.form
  refine (play_any h1 h2 h3 hid hn).mono ?_
  rintro e w' ⟨E, P, L, rfl, k1, k2, k3, k4⟩
  exact ⟨E, P, L, rfl, nums_base k1, nums_base k2, nums_base k3, hb.trans (k4.mono hb.size)⟩

/-- Of a copy v of the operations, and of new ones that lie in block bl: append, then Play. -/
theorem more_play {w1 w : World} {v : Value} {os ns : List Op4} (h : OwnOps w1.heap.size w v os) (hb : Below w1.heap.size w1 w) (hid : ∀ o ∈ os ++ ns, I64 o.id) (hn : os.length * 32 + 4096 ≤ 140737488355328) (h0 : 0 < ns.length) (h2 : ns.length ≤ 2) {bl : Nat} (hbl : w.heap[bl]? = some (.cells (opCells ns).toArray 37 (0, 0))) :
    ∃ g cap W2, (Builtin.append_ #[22, 22] 22 #[v, .slice (some ⟨bl, 0, none⟩) ns.length ns.length]).run Try.prog w = .ok (.slice (some ⟨g, 0, none⟩) (os.length + ns.length) cap) W2 ∧
      Calls Try.prog 8 #[.slice (some ⟨g, 0, none⟩) (os.length + ns.length) cap] W2 fun e w' => ∃ E P L, e = .returned (.tuple #[E, P, L]) ∧ Res (os ++ ns) w1 E P L w' := by
  obtain ⟨g, cap, W2, hr, ho, hc⟩ := ops_append h hb.size (by omega) h0 hbl
  have hb2 : Below w1.heap.size w1 W2 := hb.trans (hc.below hb.size (fun k hk => (World.ownsRow.lt h k hk).1))
  exact ⟨g, cap, W2, hr, play_own ho hid (by rw [List.length_append]; omega) hb2⟩

/-- The copy first, then the new operations are laid. -/
theorem clone_then {w1 w2 : World} {A : Option Addr} {cap b off : Nat} {os ns : List Op4} (h : Came w1 A cap b off os) (hid : ∀ o ∈ ns, I64 o.id) (h0 : 0 < ns.length) (h2 : ns.length ≤ 2) (hb : Below w1.heap.size w1 w2) {c : Array Value} (hc : (opCells ns).toArray = c) {n m : Nat} (hn : os.length = n) (hm : ns.length = m) :
    Calls Try.prog 13 #[.slice A n cap] w2 fun e w3 => ∃ v, e = .returned v ∧ Below w2.heap.size w2 w3 ∧ ∃ g cap' W, (Builtin.append_ #[22, 22] 22 #[v, .slice (some ⟨w3.heap.size, 0, none⟩) m m]).run Try.prog (w3.alloc (.cells c 37)) = .ok (.slice (some ⟨g, 0, none⟩) (n + m) cap') W ∧
      Hid (Calls Try.prog 8 #[.slice (some ⟨g, 0, none⟩) (n + m) cap'] W fun e w' => ∃ E P L, e = .returned (.tuple #[E, P, L]) ∧ Res (os ++ ns) w1 E P L w') := by
  subst hc hn hm
  have h' := h.below hb
  refine (clone_ops h'.ops h'.lt h'.at_ (by have := h.size; omega)).mono ?_
  rintro e w3 ⟨v, rfl, ho, hb3⟩
  have hb4 : Below w3.heap.size w3 (w3.alloc (.cells (opCells ns).toArray 37)) := (Below.refl _ _).alloc (Nat.le_refl _) _
  have hb23 := hb.trans (hb3.mono hb.size)
  obtain ⟨g, cap', W, hr, hp⟩ := more_play (ns := ns) ((ops_base ho hb.size).below hb4) (hb23.trans (hb4.mono hb23.size)) (fun o ho => by rcases List.mem_append.1 ho with h1 | h1; exact h.ids o h1; exact hid o h1) h.size h0 h2 (heap_alloc_new w3 _)
  exact ⟨v, rfl, hb3, g, cap', W, hr, Lib.hid hp⟩
/-- The new operations are laid first, then the copy. -/
theorem then_clone {w1 w2 : World} {A : Option Addr} {cap b off : Nat} {os ns : List Op4} (h : Came w1 A cap b off os) (hid : ∀ o ∈ ns, I64 o.id) (h0 : 0 < ns.length) (h2 : ns.length ≤ 2) (hb : Below w1.heap.size w1 w2) {c : Array Value} (hc : (opCells ns).toArray = c) {n m : Nat} (hn : os.length = n) (hm : ns.length = m) {W2 : World} (hW : W2 = (w2.alloc (.cells c 37)).drew) :
    Calls Try.prog 13 #[.slice A n cap] W2 fun e w3 => ∃ v, e = .returned v ∧ Below w2.heap.size w2 w3 ∧ ∃ g cap' W, (Builtin.append_ #[22, 22] 22 #[v, .slice (some ⟨w2.heap.size, 0, none⟩) m m]).run Try.prog w3 = .ok (.slice (some ⟨g, 0, none⟩) (n + m) cap') W ∧
      Hid (Calls Try.prog 8 #[.slice (some ⟨g, 0, none⟩) (n + m) cap'] W fun e w' => ∃ E P L, e = .returned (.tuple #[E, P, L]) ∧ Res (os ++ ns) w1 E P L w') := by
  subst hc hn hm hW
  have hb4 : Below w2.heap.size w2 (w2.alloc (.cells (opCells ns).toArray 37)).drew := by
    have : Below w2.heap.size w2 (w2.alloc (.cells (opCells ns).toArray 37)) := (Below.refl _ _).alloc (Nat.le_refl _) _
    exact ⟨this.os, this.tape, this.output, this.size, this.block⟩
  have hbl : (w2.alloc (.cells (opCells ns).toArray 37)).drew.heap[w2.heap.size]? = some (.cells (opCells ns).toArray 37 (0, 0)) := heap_alloc_new w2 _
  have hlt : w2.heap.size < (w2.alloc (.cells (opCells ns).toArray 37)).drew.heap.size := by show _ < (w2.alloc _).heap.size; simp
  generalize (w2.alloc (.cells (opCells ns).toArray 37)).drew = W2 at *
  have hb5 := hb.trans (hb4.mono hb.size)
  have h' := h.below hb5
  refine (clone_ops h'.ops h'.lt h'.at_ (by have := h.size; omega)).mono ?_
  rintro e w3 ⟨v, rfl, ho, hb3⟩
  obtain ⟨g, cap', W, hr, hp⟩ := more_play (ns := ns) (ops_base ho hb5.size) (hb5.trans (hb3.mono hb5.size)) (fun o ho => by rcases List.mem_append.1 ho with h1 | h1; exact h.ids o h1; exact hid o h1) h.size h0 h2 ((hb3.block _ hlt).trans hbl)
  exact ⟨v, rfl, hb4.trans (hb3.mono hb4.size), g, cap', W, hr, Lib.hid hp⟩

end Go.Proofs.Ytbckppflfgdblaa
