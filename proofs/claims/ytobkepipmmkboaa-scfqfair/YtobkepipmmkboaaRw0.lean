/- A row of slices of ints of one's own: made, an append to one of them, one of them without its first. -/
import Derived.Test.YtobkepipmmkboaaIn3b
import Derived.Test.YtobkepipmmkboaaFkMath
namespace Go.Proofs.Ytobkepipmmkboaa
open Go.RowKit Go.Maps

def laidL (w : World) (n : Nat) : World := w.alloc (.cells (madeCells #[.slice none 0 0] n) 22)
theorem make_lists (n : Nat) (hn : n ≤ 16) (w : World) : (Instr.makeSlice 57 (.int .i64 (n : Int)) (.int .i64 (n : Int))).run Try.prog w = .ok (.slice (some ⟨w.heap.size, 0, none⟩) n n) (laidL w n) :=
  run_make_row' (P := Try.prog) 57 22 (.slice none 0 0) 24 Try.underlying57 (by kernel_rfl) rfl .i64 .i64 n (by omega) (by omega) w
/-- A row of slices of one's own, each in a block of its own. -/
structure Rows0 (w wr : World) (gb n : Nat) (G : Nat → List Int) (A : Nat → Option Addr) (c : Nat → Nat) : Prop where
  below : Below w.heap.size w wr
  far : w.heap.size ≤ gb
  row : wr.rowIs gb 22 n (fun j => .slice (A j) (G j).length (c j))
  own : ∀ j, j < n → Fifo w.heap.size wr (A j) (G j) (c j) ∧ (∀ g, Ab (A j) g → g ≠ gb) ∧ ∀ i, i < n → i ≠ j → ∀ g, Ab (A i) g → ¬ Ab (A j) g
def RowsG (w wr : World) (gb n : Nat) (G : Nat → List Int) : Prop := ∃ A c, Rows0 w wr gb n G A c
theorem rows_start (w : World) (n : Nat) {w1 : World} (hb : Below w.heap.size w w1) : RowsG w (laidL w1 n) w1.heap.size n (fun _ => []) :=
  ⟨fun _ => none, fun _ => 0, hb.alloc hb.size _, hb.size, World.rowIs_made w1 (.slice none 0 0) n 22, fun j _ => ⟨Fifo.nil _ _, fun g hg => (by obtain ⟨_, e, _⟩ := hg; cases e), fun i _ _ g hg => (by obtain ⟨_, e, _⟩ := hg; cases e)⟩⟩
theorem Rows0.later {w wr W : World} {gb n : Nat} {G : Nat → List Int} {A : Nat → Option Addr} {c : Nat → Nat} (h : Rows0 w wr gb n G A c) (hb : Below wr.heap.size wr W) : Rows0 w W gb n G A c :=
  ⟨h.below.trans (hb.mono h.below.size), h.far, h.row.of_block (hb.block _ h.row.lt), fun j hj => ⟨(h.own j hj).1.below hb, (h.own j hj).2⟩⟩
theorem RowsG.later {w wr W : World} {gb n : Nat} {G : Nat → List Int} (h : RowsG w wr gb n G) (hb : Below wr.heap.size wr W) : RowsG w W gb n G := by
  obtain ⟨A, c, h⟩ := h
  exact ⟨A, c, h.later hb⟩
theorem RowsG.below {w wr : World} {gb n : Nat} {G : Nat → List Int} (h : RowsG w wr gb n G) : Below w.heap.size w wr := by
  obtain ⟨A, c, h⟩ := h
  exact h.below
theorem RowsG.congr {w wr : World} {gb n : Nat} {G H : Nat → List Int} (h : RowsG w wr gb n G) (e : ∀ j, j < n → G j = H j) : RowsG w wr gb n H := by
  obtain ⟨A, c, h⟩ := h
  exact ⟨A, c, h.below, h.far, h.row.congr fun j hj => by rw [e j hj], fun j hj => by rw [← e j hj]; exact h.own j hj⟩
/-- An append to one of them. -/
theorem Rows0.push {w wr m : World} {gb n : Nat} {G : Nat → List Int} {A : Nat → Option Addr} {c : Nat → Nat} (h0 : Rows0 w wr gb n G A c) (hm : Below wr.heap.size wr m) {k : Nat} (hk : k < n) {As : Option Addr} {ys : List Int} (hy : IntsIn m As ys) (cs : Nat) (hl : ((G k).length + ys.length) * 8 ≤ 140737488355328) :
    ∃ A' c' W, wr.cell? ⟨gb, k, none⟩ = some (.slice (A k) (G k).length (c k)) ∧ gb < wr.heap.size ∧ (∀ g, g < wr.heap.size → ¬ Ab (A k) g → W.heap[g]? = wr.heap[g]?) ∧
      (∀ ty, (Builtin.append_ #[22, 22] ty #[.slice (A k) (G k).length (c k), .slice As ys.length cs]).run Try.prog m = .ok (.slice A' ((G k).length + ys.length) c') W) ∧
      W.cell? ⟨gb, k, none⟩ = some (.slice (A k) (G k).length (c k)) ∧ W.frozen? ⟨gb, k, none⟩ = false ∧
      RowsG w (W.setCell ⟨gb, k, none⟩ (.slice A' ((G k).length + ys.length) c')) gb n (putQ G k (G k ++ ys)) := by
  have h := h0.later hm
  obtain ⟨ho, hne, hd⟩ := h.own k hk
  have hlt := h0.row.lt
  have hs := hm.size
  obtain ⟨A', c', W, hr, hf, hc, hab⟩ := fifo_app ho hy cs h.below.size hl
  have hgb : ¬ Ab (A k) gb := fun hg => hne gb hg rfl
  have hrow := h.row.of_block (hc.block gb (by omega) hgb)
  have hW : Below w.heap.size w W := h.below.trans (hc.below h.below.size fun g hg => (ho.ab g hg).1)
  have hsz : W.heap.size ≤ (W.setCell ⟨gb, k, none⟩ (.slice A' ((G k).length + ys.length) c')).heap.size := by simp [World.setCell]
  have hbl : ∀ g, g ≠ gb → (W.setCell ⟨gb, k, none⟩ (.slice A' ((G k).length + ys.length) c')).heap[g]? = W.heap[g]? := fun g hg => Below.heap_setCell W ⟨gb, k, none⟩ _ g hg
  refine ⟨A', c', W, h0.row.cell hk, hlt, fun g hg hn => (hc.block g (by omega) hn).trans (hm.block g hg), hr, hrow.cell hk, hrow.frozen k, fun j => if j = k then A' else A j, fun j => if j = k then c' else c j, hW.setCell (p := ⟨gb, k, none⟩) h.far _, h.far, (hrow.set k _).congr fun j _ => ?_, fun j hj => ?_⟩
  · unfold putQ
    by_cases e : j = k
    · rw [if_pos e, if_pos e, if_pos e, if_pos e, List.length_append]
    · rw [if_neg e, if_neg e, if_neg e, if_neg e]
  · have hA' : ∀ g, Ab A' g → g ≠ gb := fun g hg => by
      rcases hab g hg with h1 | h1
      · exact hne g h1
      · omega
    unfold putQ
    by_cases e : j = k
    · rw [if_pos e, if_pos e, if_pos e]
      refine ⟨hf.of_blocks hsz fun g hg _ => hbl g (hA' g hg), hA', fun i hi hij g hg h1 => ?_⟩
      subst e
      rw [if_neg hij] at hg
      rcases hab g h1 with h2 | h2
      · exact hd i hi hij g hg h2
      · have := ((h.own i hi).1.ab g hg).2
        omega
    · rw [if_neg e, if_neg e, if_neg e]
      obtain ⟨oj, nj, dj⟩ := h.own j hj
      refine ⟨(oj.chg hc fun g hg => dj k hk (fun e' => e e'.symm) g |> fun f hk' => f hk' hg).of_blocks hsz fun g hg _ => hbl g (nj g hg), nj, fun i hi hij g hg h1 => ?_⟩
      by_cases ei : i = k
      · rw [if_pos ei] at hg
        rcases hab g hg with h2 | h2
        · exact dj k hk (fun e' => e e'.symm) g h2 h1
        · have := (oj.ab g h1).2
          omega
      · rw [if_neg ei] at hg
        exact dj i hi hij g hg h1

/-- One of them without its first. -/
theorem Rows0.tail {w wr : World} {gb n : Nat} {G : Nat → List Int} {A : Nat → Option Addr} {c : Nat → Nat} (h : Rows0 w wr gb n G A c) {k : Nat} (hk : k < n) {x : Int} {r : List Int} (hG : G k = x :: r) :
    ∃ g off cap A' c', wr.cell? ⟨gb, k, none⟩ = some (.slice (some ⟨g, off, none⟩) (r.length + 1) cap) ∧ wr.frozen? ⟨gb, k, none⟩ = false ∧ wr.cell? ⟨g, off, none⟩ = some (.int .i64 x) ∧
      (∀ W : World, (Instr.slice 22 (.slice (some ⟨g, off, none⟩) (r.length + 1) cap) (some (.int .i64 1)) none none).run Try.prog W = .ok (.slice A' r.length c') W) ∧
      ∀ W, Below wr.heap.size wr W → RowsG w (W.setCell ⟨gb, k, none⟩ (.slice A' r.length c')) gb n (putQ G k r) := by
  obtain ⟨ho, hne, hd⟩ := h.own k hk
  have hcell := h.row.cell hk
  rw [hG] at ho hcell
  obtain ⟨g, off, A', c', e, hx, hrun, hf, hab⟩ := ho.tail_run
  rw [e] at hcell
  have hfz := h.row.frozen k
  have hA' : ∀ q, Ab A' q → q ≠ gb := fun q hq => hne q (hab q hq)
  refine ⟨g, off, c k, A', c', hcell, hfz, hx, hrun, fun W hb => ?_⟩
  have hf := hf.below hb
  replace h := h.later hb
  have hbl : ∀ q, q ≠ gb → (W.setCell ⟨gb, k, none⟩ (.slice A' r.length c')).heap[q]? = W.heap[q]? := fun q hq => Below.heap_setCell W ⟨gb, k, none⟩ _ q hq
  have hsz : W.heap.size ≤ (W.setCell ⟨gb, k, none⟩ (.slice A' r.length c')).heap.size := by simp [World.setCell]
  refine ⟨fun j => if j = k then A' else A j, fun j => if j = k then c' else c j, h.below.setCell (p := ⟨gb, k, none⟩) h.far _, h.far, (h.row.set k _).congr fun j _ => ?_, fun j hj => ?_⟩
  · unfold putQ
    by_cases e : j = k
    · rw [if_pos e, if_pos e, if_pos e, if_pos e]
    · rw [if_neg e, if_neg e, if_neg e, if_neg e]
  · unfold putQ
    by_cases e : j = k
    · rw [if_pos e, if_pos e, if_pos e]
      refine ⟨hf.of_blocks hsz fun g hg _ => hbl g (hA' g hg), hA', fun i hi hij g hg h1 => ?_⟩
      subst e
      rw [if_neg hij] at hg
      exact hd i hi hij g hg (hab g h1)
    · rw [if_neg e, if_neg e, if_neg e]
      obtain ⟨oj, nj, dj⟩ := h.own j hj
      refine ⟨oj.of_blocks hsz fun g hg _ => hbl g (nj g hg), nj, fun i hi hij g hg h1 => ?_⟩
      by_cases ei : i = k
      · rw [if_pos ei] at hg
        exact dj k hk (fun e' => e e'.symm) g (hab g hg) h1
      · rw [if_neg ei] at hg
        exact dj i hi hij g hg h1
end Go.Proofs.Ytobkepipmmkboaa
