/- Slices of prefixes of the call's own: Clone and append. -/
import Derived.Test.YtcadjgmglaimdaaTr9
import Derived.Deep.Onto
namespace Go.Proofs.Ytcadjgmglaimdaa
open Go.RowKit Go.Maps

theorem pfCells_length (ps : List Pf) : (pfCells ps).length = ps.length * 6 := flat_length pf_len ps
theorem pfCells_append (a b : List Pf) : pfCells (a ++ b) = pfCells a ++ pfCells b := by simp [pfCells]
theorem pf_one (ps : List Pf) : ∀ u ∈ pfCells ps, u.oneCell' = true := by
  intro u hu
  simp only [pfCells, List.mem_flatMap, Pf.cells, List.mem_cons, List.not_mem_nil, or_false] at hu
  obtain ⟨o, _, h⟩ := hu
  rcases h with rfl | rfl | rfl | rfl | rfl | rfl <;> rfl
theorem info_pf : (Try.prog.info? 26).map (fun i => (i.zero, i.size, i.bytes)) = some (some (.agg #[.int .u8 0, .int .u8 0, .int .u8 0, .int .u8 0, .int .i64 0, .int .i64 0]), 6, 24) := by kernel_rfl
theorem under_pfs : Try.prog.underlying 22 = some (.slice 26) := by kernel_rfl

def OwnPfs (B : Nat) (w : World) (v : Value) (ps : List Pf) : Prop := w.ownsRow B 26 6 v ps.length (pfCells ps)
theorem OwnPfs.form {B : Nat} {w : World} {v : Value} {ps : List Pf} (h : OwnPfs B w v ps) (hok : ∀ p ∈ ps, p.ad.Ok) (hl : ps.length * 24 ≤ 281474976710656) : ∃ A cap, v = .slice A ps.length cap ∧ PfsIn w A ps ∧ ps.length ≤ cap := by
  rcases h.2 with ⟨rfl, h0⟩ | ⟨g, cap, cur, rfl, hB, hg, hn, _, hs, ht⟩
  · exact ⟨none, 0, by rw [h0], ⟨fun h => by omega, hok, hl⟩, by omega⟩
  · exact ⟨_, cap, rfl, ⟨fun _ => ⟨g, 0, rfl, (World.ownsRow.lt h g rfl).2, row_pfs hg ht⟩, hok, hl⟩, hn⟩
theorem OwnPfs.below {B : Nat} {w w' : World} {v : Value} {ps : List Pf} (h : OwnPfs B w v ps) (hb : Below w.heap.size w w') : OwnPfs B w' v ps := by
  refine ⟨h.1, ?_⟩
  rcases h.2 with hn | ⟨g, cap, cur, rfl, hB, hgg, rest⟩
  · exact .inl hn
  · exact .inr ⟨g, cap, cur, rfl, hB, (hb.block g (World.ownsRow.lt h g rfl).2).trans hgg, rest⟩

/-- One prefix appended, which lies in a block of its own. -/
theorem pfs_append {B : Nat} {w : World} {v : Value} {ps : List Pf} {p : Pf} (h : OwnPfs B w v ps) (hB : B ≤ w.heap.size) (hn : ps.length * 24 + 4096 ≤ 140737488355328) {bl : Nat} (hbl : w.heap[bl]? = some (.cells p.cells.toArray 26 (0, 0))) :
    ∃ g cap W, (∀ ty, (Builtin.append_ #[22, 22] ty #[v, .slice (some ⟨bl, 0, none⟩) 1 1]).run Try.prog w = .ok (.slice (some ⟨g, 0, none⟩) (ps.length + 1) cap) W) ∧ OwnPfs B W (.slice (some ⟨g, 0, none⟩) (ps.length + 1) cap) (ps ++ [p]) ∧ Below B w W ∧
      (∀ (k : Nat) (c : Array Value) (t : TypeId), w.heap[k]? = some (.cells c t (0, 0)) → t ≠ 26 → W.heap[k]? = some (.cells c t (0, 0))) := by
  obtain ⟨i0, hi, hz0, hz1, hz2⟩ := info_parts info_pf
  have key := fun ty => run_append_lies (P := Try.prog) w 22 ty B 26 i0 _ 6 24 under_pfs hi hz0 hz1 hz2 rfl (by decide) v ps.length (pfCells ps) h
    ⟨bl, 0, none⟩ 1 1 (pfCells [p]) (pfCells_length [p]) (by have := World.news_of_block hbl; simpa [pfCells] using this) (pf_one [p]) (by decide) (by simp only [maxLen]; omega) (by omega) hB _ rfl
  obtain ⟨g, cap, W, hr, h2, h3, _, _⟩ := key 0
  refine ⟨g, cap, W, fun ty => hr, ?_, ⟨h3.os, h3.tape, h3.output, h3.size, fun k hk => h3.block k (by omega) (fun e => by have := (World.ownsRow.lt h k e.symm).1; omega)⟩, fun k c t hk ht => ?_⟩
  · unfold OwnPfs
    rw [List.length_append, pfCells_append]
    exact h2
  · rw [h3.block k (Array.getElem?_eq_some_iff.1 hk).1 ?_]
    · exact hk
    · intro e
      rcases h.2 with ⟨rfl, _⟩ | ⟨g', cap', cur, rfl, _, hg, _⟩
      · simp [Value.ownBlock] at e
      · simp [Value.ownBlock] at e
        subst e
        rw [hg] at hk
        injection hk with hk
        injection hk with _ ht2
        exact ht ht2.symm

theorem pfs_news {w : World} {A : Addr} {ps : List Pf} (h : PfsIn w (some A) ps) : ∀ j u, (pfCells ps)[j]? = some u → w.cell? (A.add j) = some u := fun j u hu => by
  have hj : j < ps.length * 6 := by
    rw [← pfCells_length]
    rcases Nat.lt_or_ge j (pfCells ps).length with h | h
    · exact h
    · rw [List.getElem?_eq_none h] at hu; cases hu
  obtain ⟨b, off, e, _, hc⟩ := h.at_ (by omega)
  injection e with e
  subst e
  have hadd : (⟨b, off, none⟩ : Addr).add j = ⟨b, off + j, none⟩ := by unfold Addr.add; split <;> simp_all
  have hlt : j / 6 < ps.length := by omega
  have ho : ps[j / 6]? = some ps[j / 6] := List.getElem?_eq_getElem hlt
  obtain ⟨a0, a1, a2, a3, a4, a5⟩ := hc _ _ ho
  have hd : j = j / 6 * 6 + j % 6 := by omega
  have hm : j % 6 < 6 := by omega
  have hu2 : (pfCells ps)[j / 6 * 6 + j % 6]? = _ := flat_at pf_len ho (j % 6) hm
  rw [← hd, hu] at hu2
  rw [hadd, show off + j = off + j / 6 * 6 + j % 6 by omega]
  generalize j % 6 = c at *
  rcases c with _ | _ | _ | _ | _ | _ | c
  · rw [Nat.add_zero, a0]; exact hu2.symm
  · rw [a1]; exact hu2.symm
  · rw [a2]; exact hu2.symm
  · rw [a3]; exact hu2.symm
  · rw [a4]; exact hu2.symm
  · rw [a5]; exact hu2.symm
  · omega

theorem clone_run {w : World} {ps : List Pf} {a : Addr} {cap : Nat} (h : PfsIn w (some a) ps) (hn : ps.length * 24 + 4096 ≤ 140737488355328) :
    ∃ v W, (Builtin.append_ #[22, 22] 22 #[.slice (some ⟨w.heap.size, 0, none⟩) 0 0, .slice (some a) ps.length cap]).run Try.prog (w.alloc (.cells #[] 26)) = .ok v W ∧ OwnPfs w.heap.size W v ps ∧ Below w.heap.size w W := by
  obtain ⟨i0, hi, hz0, hz1, hz2⟩ := info_parts info_pf
  have hown : (w.alloc (.cells #[] 26)).ownsRow w.heap.size 26 6 (.slice (some ⟨w.heap.size, 0, none⟩) 0 0) 0 [] := World.ownsRow_made w #[] 0 (Nat.le_refl _) (by simp only [maxLen]; omega) rfl
  have hb0 : Below w.heap.size w (w.alloc (.cells #[] 26)) := (Below.refl _ _).alloc (Nat.le_refl _) _
  obtain ⟨v', W, hr, h2, h3, _, h5⟩ := run_append_own_at (P := Try.prog) (w.alloc (.cells #[] 26)) w.heap.size 22 22 26 i0 _ 6 24 under_pfs hi hz0 hz1 hz2 rfl (by decide) (.slice (some ⟨w.heap.size, 0, none⟩) 0 0) 0 [] hown
    a ps.length cap (pfCells ps) (pfCells_length ps) (pfs_news (h.below hb0)) (pf_one ps) (by simp only [maxLen]; omega) (by omega) hb0.size
  refine ⟨v', W, hr, ?_, hb0.trans ⟨h3.os, h3.tape, h3.output, h3.size, fun k hk => h3.block k (by simp; omega) (fun e => by simp [Value.ownBlock] at e; omega)⟩⟩
  unfold OwnPfs
  simpa using h2

def Cloned (ps : List Pf) (w : World) (e : Ending) (w' : World) : Prop := ∃ v, e = .returned v ∧ OwnPfs w.heap.size w' v ps ∧ Below w.heap.size w w'
set_option maxHeartbeats 1000000 in
theorem clone_pfs {w : World} {ps : List Pf} {A : Option Addr} {cap : Nat} (h : PfsIn w A ps) (hnil : A = none → ps = [] ∧ cap = 0) (hn : ps.length * 24 + 4096 ≤ 140737488355328) :
    Calls Try.prog 18 #[.slice A ps.length cap] w (Cloned ps w) := by
  have hq : ∀ (w : World) (a : Option Addr) (n c n' c' : Nat), (binOp .eql 22 (.slice a n c) (.slice none n' c')).run Try.prog w = .ok (.bool a.isNone) w := fun w a n c n' c' => Lib.run_eql_slice_nil w _ _ a n c n' c' under_pfs
  cases A with
  | some a =>
    obtain ⟨v, W2, r2, h1, h2⟩ := clone_run (cap := cap) h hn
    have HX := Lib.hid (And.intro h1 h2)
    clear h1 h2 h hn hnil
    go_enter Try.func18, Try.ntmps18
    go_wp2_with (at_builtin; refine wpList_append_eq rfl (.tmp 5) (.tmp 6) 22 22 rfl rfl rfl r2 ?_)
    go_ret
    exact ⟨_, rfl, HX.out⟩
  | none =>
    obtain ⟨rfl, rfl⟩ := hnil rfl
    clear h hn hnil
    go_enter Try.func18, Try.ntmps18
    go_wp2
    go_ret
    exact ⟨_, rfl, World.ownsRow_nil _ _ _ _, Below.refl _ _⟩
end Go.Proofs.Ytcadjgmglaimdaa
