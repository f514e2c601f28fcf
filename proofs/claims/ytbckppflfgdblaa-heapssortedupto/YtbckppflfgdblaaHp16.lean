/- Slices of operations: a copy of one (slices.Clone), and an append to it. -/
import Derived.Test.YtbckppflfgdblaaHp15
import Derived.Maps.AppendAt
import Derived.Lib.SliceRun
namespace Go.Proofs.Ytbckppflfgdblaa
open Go.RowKit Go.Maps

def Op4.cells (o : Op4) : List Value := [.int .i64 o.kind, .int .i64 o.id, .int .u64 o.hi, .int .u64 o.lo]
def opCells (os : List Op4) : List Value := os.flatMap Op4.cells
theorem opCells_length (os : List Op4) : (opCells os).length = os.length * 4 := by
  induction os with
  | nil => rfl
  | cons o os ih => simp only [opCells, List.flatMap_cons, List.length_append, List.length_cons] at ih ⊢; rw [ih]; simp [Op4.cells]; omega
theorem opCells_append (a b : List Op4) : opCells (a ++ b) = opCells a ++ opCells b := by simp [opCells]
theorem opCells_at {os : List Op4} {j : Nat} {o : Op4} (h : os[j]? = some o) (c : Nat) (hc : c < 4) : (opCells os)[j * 4 + c]? = o.cells[c]? := by
  induction os generalizing j with
  | nil => cases h
  | cons p os ih =>
    have hl : p.cells.length = 4 := rfl
    cases j with
    | zero =>
      simp only [List.getElem?_cons_zero, Option.some.injEq] at h
      subst h
      rw [opCells, List.flatMap_cons, List.getElem?_append_left (by omega), Nat.zero_mul, Nat.zero_add]
    | succ j =>
      rw [List.getElem?_cons_succ] at h
      rw [opCells, List.flatMap_cons, List.getElem?_append_right (by omega), hl, show (j + 1) * 4 + c - 4 = j * 4 + c by omega]
      exact ih h
theorem opCells_one (os : List Op4) : ∀ u ∈ opCells os, u.oneCell' = true := by
  intro u hu
  simp only [opCells, List.mem_flatMap, Op4.cells, List.mem_cons, List.not_mem_nil, or_false] at hu
  obtain ⟨o, _, h⟩ := hu
  rcases h with rfl | rfl | rfl | rfl <;> rfl

def OwnOps (B : Nat) (w : World) (v : Value) (os : List Op4) : Prop := w.ownsRow B 37 4 v os.length (opCells os)
theorem OwnOps.form {B : Nat} {w : World} {v : Value} {os : List Op4} (h : OwnOps B w v os) :
    ∃ A cap g, v = .slice A os.length cap ∧ (0 < os.length → A = some ⟨g, 0, none⟩) ∧ OpsAt w g 0 os ∧ (0 < os.length → g < w.heap.size) := by
  rcases h.2 with ⟨rfl, h0⟩ | ⟨g, cap, cur, rfl, hB, hg, hn, _, hs, ht⟩
  · exact ⟨none, 0, 0, by rw [h0], fun h => by omega, (fun j o ho => by
      rw [List.getElem?_eq_none (by omega)] at ho; cases ho), fun h => by omega⟩
  · refine ⟨_, cap, g, rfl, fun _ => rfl, fun j o ho => ?_, fun _ => (World.ownsRow.lt h g rfl).2⟩
    have hj : j < os.length := by
      rcases Nat.lt_or_ge j os.length with h | h
      · exact h
      · rw [List.getElem?_eq_none h] at ho; cases ho
    have key : ∀ c, c < 4 → w.cell? ⟨g, 0 + j * 4 + c, none⟩ = o.cells[c]? := fun c hc => by
      rw [cell_of_row w g _ cur _ _ hg, ← opCells_at ho c hc, ← ht, List.getElem?_take_of_lt (by omega), Array.getElem?_toList, Nat.zero_add]
    exact ⟨key 0 (by omega), key 1 (by omega), key 2 (by omega), key 3 (by omega)⟩
theorem OwnOps.below {B : Nat} {w w' : World} {v : Value} {os : List Op4} (h : OwnOps B w v os) (hb : Below w.heap.size w w') : OwnOps B w' v os := by
  refine ⟨h.1, ?_⟩
  rcases h.2 with hn | ⟨g, cap, cur, rfl, hB, hgg, rest⟩
  · exact .inl hn
  · exact .inr ⟨g, cap, cur, rfl, hB, (hb.block g (World.ownsRow.lt h g rfl).2).trans hgg, rest⟩

theorem Try.info37 : (Try.prog.info? 37).map (fun i => (i.zero, i.size, i.bytes)) = some (some (.agg #[.int .i64 0, .int .i64 0, .int .u64 0, .int .u64 0]), 4, 32) := by kernel_rfl
theorem Try.underlying22 : Try.prog.underlying 22 = some (.slice 37) := by kernel_rfl

/-- An append of operations that lie in a block of their own. -/
theorem ops_append {B : Nat} {w : World} {v : Value} {os ns : List Op4} (h : OwnOps B w v os) (hB : B ≤ w.heap.size) (hn : (os.length + ns.length) * 32 ≤ 140737488355328) (h0 : 0 < ns.length) {bl : Nat} (hbl : w.heap[bl]? = some (.cells (opCells ns).toArray 37 (0, 0))) :
    ∃ g cap W2, (Builtin.append_ #[22, 22] 22 #[v, .slice (some ⟨bl, 0, none⟩) ns.length ns.length]).run Try.prog w = .ok (.slice (some ⟨g, 0, none⟩) (os.length + ns.length) cap) W2 ∧ OwnOps B W2 (.slice (some ⟨g, 0, none⟩) (os.length + ns.length) cap) (os ++ ns) ∧ Chg (fun k => v.ownBlock = some k) w W2 := by
  obtain ⟨i0, hi, hz0, hz1, hz2⟩ := info_parts Try.info37
  obtain ⟨g, cap', W, hr, h2, h3, h4, _⟩ := run_append_lies (P := Try.prog) w 22 22 B 37 i0 _ 4 32 Try.underlying22 hi hz0 hz1 hz2 rfl (by decide) v os.length (opCells os) h
    ⟨bl, 0, none⟩ ns.length ns.length (opCells ns) (opCells_length ns) (by have := World.news_of_block hbl; simpa using this) (opCells_one ns) h0 (by simp only [maxLen]; omega) hn hB _ rfl
  refine ⟨g, cap', W, hr, ?_, Chg.of_grown h3 (fun k e => e)⟩
  unfold OwnOps
  rw [List.length_append, opCells_append]
  exact h2

theorem clone_run {w : World} {os : List Op4} {b off cap : Nat} {ad : Addr} (had : 0 < os.length → ad = ⟨b, off, none⟩) (hO : OpsAt w b off os) (hb : 0 < os.length → b < w.heap.size) (hn : os.length * 32 ≤ 140737488355328) :
    ∃ v W2, (Builtin.append_ #[22, 22] 22 #[.slice (some ⟨w.heap.size, 0, none⟩) 0 0, .slice (some ad) os.length cap]).run Try.prog (w.alloc (.cells #[] 37)) = .ok v W2 ∧ OwnOps w.heap.size W2 v os ∧ Below w.heap.size w W2 := by
  obtain ⟨i0, hi, hz0, hz1, hz2⟩ := info_parts Try.info37
  have hown : (w.alloc (.cells #[] 37)).ownsRow w.heap.size 37 4 (.slice (some ⟨w.heap.size, 0, none⟩) 0 0) 0 [] := World.ownsRow_made w #[] 0 (Nat.le_refl _) (by simp only [maxLen]; omega) rfl
  have hb0 : Below w.heap.size w (w.alloc (.cells #[] 37)) := (Below.refl _ _).alloc (Nat.le_refl _) _
  have hO' := hO.below hb0 hb
  have hnews : ∀ j u, (opCells os)[j]? = some u → (w.alloc (.cells #[] 37)).cell? (ad.add j) = some u := fun j u hu => by
    have hj : j < os.length * 4 := by
      rw [← opCells_length]
      rcases Nat.lt_or_ge j (opCells os).length with h | h
      · exact h
      · rw [List.getElem?_eq_none h] at hu; cases hu
    have hadd : ad.add j = ⟨b, off + j, none⟩ := by rw [had (by omega)]; unfold Addr.add; split <;> simp_all
    have hd : j = j / 4 * 4 + j % 4 := by omega
    have hlt : j / 4 < os.length := by omega
    have ho : os[j / 4]? = some os[j / 4] := List.getElem?_eq_getElem hlt
    obtain ⟨a0, a1, a2, a3⟩ := hO' _ _ ho
    have hu2 := opCells_at ho (j % 4) (by omega)
    rw [← hd, hu] at hu2
    rw [hadd]
    have hm : j % 4 < 4 := by omega
    have hoff : off + j = off + j / 4 * 4 + j % 4 := by omega
    rw [hoff]
    generalize j % 4 = c at *
    rcases c with _ | _ | _ | _ | c
    · rw [Nat.add_zero, a0]; exact hu2.symm
    · rw [a1]; exact hu2.symm
    · rw [a2]; exact hu2.symm
    · rw [a3]; exact hu2.symm
    · omega
  obtain ⟨v', W, hr, h2, h3, _, h5⟩ := run_append_own_at (P := Try.prog) (w.alloc (.cells #[] 37)) w.heap.size 22 22 37 i0 _ 4 32 Try.underlying22 hi hz0 hz1 hz2 rfl (by decide) (.slice (some ⟨w.heap.size, 0, none⟩) 0 0) 0 [] hown
    ad os.length cap (opCells os) (opCells_length os) hnews (opCells_one os) (by simp only [maxLen]; omega) (by omega) hb0.size
  refine ⟨v', W, hr, ?_, hb0.trans ((Chg.of_grown (S := fun k => k = w.heap.size) h3 (fun k e => ?_)).below hb0.size (fun k e => by omega))⟩
  · unfold OwnOps
    simpa using h2
  · simp only [Value.ownBlock, Option.some.injEq] at e
    exact e.symm

def Cloned (os : List Op4) (w : World) (e : Ending) (w' : World) : Prop := ∃ v, e = .returned v ∧ OwnOps w.heap.size w' v os ∧ Below w.heap.size w w'
set_option maxHeartbeats 1000000 in
theorem clone_ops {w : World} {os : List Op4} {A : Option Addr} {b off cap : Nat} (hO : OpsAt w b off os) (hb : 0 < os.length → b < w.heap.size) (hA : (∃ a, A = some a ∧ (0 < os.length → a = ⟨b, off, none⟩)) ∨ (A = none ∧ os = [] ∧ cap = 0)) (hn : os.length * 32 ≤ 140737488355328) :
    Calls Try.prog 13 #[.slice A os.length cap] w (Cloned os w) := by
  have hnil : ∀ (w : World) (a : Option Addr) (n c n' c' : Nat), (binOp .eql 22 (.slice a n c) (.slice none n' c')).run Try.prog w = .ok (.bool a.isNone) w := fun w a n c n' c' => Lib.run_eql_slice_nil w _ _ a n c n' c' Try.underlying22
  rcases hA with ⟨a, rfl, had⟩ | ⟨rfl, rfl, rfl⟩
  · obtain ⟨v, W2, r2, h1, h2⟩ := clone_run (cap := cap) had hO hb hn
    have HX := Lib.hid (And.intro h1 h2)
    clear h1 h2 hO hb hn had
    go_enter Try.func13, Try.ntmps13
    go_wp2_with (at_builtin; refine wpList_append_eq rfl (.tmp 5) (.tmp 6) 22 rfl rfl rfl r2 ?_)
    go_ret
    exact ⟨_, rfl, HX.out⟩
  · clear hO hb hn
    go_enter Try.func13, Try.ntmps13
    go_wp2
    go_ret
    exact ⟨_, rfl, World.ownsRow_nil _ _ _ _, Below.refl _ _⟩

end Go.Proofs.Ytbckppflfgdblaa
