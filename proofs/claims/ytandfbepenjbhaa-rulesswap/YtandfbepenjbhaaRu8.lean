/- slices.Clone of rules. -/
import Derived.Test.YtandfbepenjbhaaRu5
namespace Go.Proofs.Ytandfbepenjbhaa
open Go.RowKit Go.Maps

theorem rus_news {w : World} {A : Addr} {rs : List Ru} (h : RusIn w (some A) rs) : ∀ j u, (ruCells rs)[j]? = some u → w.cell? (A.add j) = some u := fun j u hu => by
  have hj : j < rs.length * 14 := by
    rw [← ruCells_length]
    rcases Nat.lt_or_ge j (ruCells rs).length with h | h
    · exact h
    · rw [List.getElem?_eq_none h] at hu; cases hu
  obtain ⟨b, off, e, _, hc⟩ := h.at_ (by omega)
  injection e with e
  subst e
  have hadd : (⟨b, off, none⟩ : Addr).add j = ⟨b, off + j, none⟩ := by unfold Addr.add; split <;> simp_all
  have hlt : j / 14 < rs.length := by omega
  have ho : rs[j / 14]? = some rs[j / 14] := List.getElem?_eq_getElem hlt
  have hd : j = j / 14 * 14 + j % 14 := by omega
  have hm : j % 14 < 14 := by omega
  have hu2 : (ruCells rs)[j / 14 * 14 + j % 14]? = _ := flat_at ru_len ho (j % 14) hm
  rw [← hd, hu] at hu2
  rw [hadd, show off + j = off + j / 14 * 14 + j % 14 by omega, hc _ _ ho _ hm]
  exact hu2.symm
theorem clone_run {w : World} {rs : List Ru} {a : Addr} {cap : Nat} (h : RusIn w (some a) rs) (hn : rs.length * 56 + 4096 ≤ 140737488355328) :
    ∃ v W, (Builtin.append_ #[22, 22] 22 #[.slice (some ⟨w.heap.size, 0, none⟩) 0 0, .slice (some a) rs.length cap]).run Try.prog (w.alloc (.cells #[] 32)) = .ok v W ∧ OwnRus w.heap.size W v rs ∧ Below w.heap.size w W := by
  obtain ⟨i0, hi, hz0, hz1, hz2⟩ := info_parts info_ru
  have hown : (w.alloc (.cells #[] 32)).ownsRow w.heap.size 32 14 (.slice (some ⟨w.heap.size, 0, none⟩) 0 0) 0 [] := World.ownsRow_made w #[] 0 (Nat.le_refl _) (by simp only [maxLen]; omega) rfl
  have hb0 : Below w.heap.size w (w.alloc (.cells #[] 32)) := (Below.refl _ _).alloc (Nat.le_refl _) _
  obtain ⟨v', W, hr, h2, h3, _, h5⟩ := run_append_own_at (P := Try.prog) (w.alloc (.cells #[] 32)) w.heap.size 22 22 32 i0 _ 14 56 under_rus hi hz0 hz1 hz2 rfl (by decide) (.slice (some ⟨w.heap.size, 0, none⟩) 0 0) 0 [] hown
    a rs.length cap (ruCells rs) (ruCells_length rs) (rus_news (h.below hb0)) (ru_one rs) (by simp only [maxLen]; omega) (by omega) hb0.size
  refine ⟨v', W, hr, ?_, hb0.trans ⟨h3.os, h3.tape, h3.output, h3.size, fun k hk => h3.block k (by simp; omega) (fun e => by simp [Value.ownBlock] at e; omega)⟩⟩
  unfold OwnRus
  simpa using h2

def Cloned (rs : List Ru) (w : World) (e : Ending) (w' : World) : Prop := ∃ v, e = .returned v ∧ OwnRus w.heap.size w' v rs ∧ Below w.heap.size w w'
set_option maxHeartbeats 1000000 in
theorem clone_rus {w : World} {rs : List Ru} {A : Option Addr} {cap : Nat} (h : RusIn w A rs) (hnil : A = none → rs = [] ∧ cap = 0) (hn : rs.length * 56 + 4096 ≤ 140737488355328) :
    Calls Try.prog 21 #[.slice A rs.length cap] w (Cloned rs w) := by
  have hq : ∀ (w : World) (a : Option Addr) (n c n' c' : Nat), (binOp .eql 22 (.slice a n c) (.slice none n' c')).run Try.prog w = .ok (.bool a.isNone) w := fun w a n c n' c' => Lib.run_eql_slice_nil w _ _ a n c n' c' under_rus
  cases A with
  | some a =>
    obtain ⟨v, W2, r2, h1, h2⟩ := clone_run (cap := cap) h hn
    have HX := Lib.hid (And.intro h1 h2)
    clear h1 h2 h hn hnil
    go_enter Try.func21, Try.ntmps21
    go_wp2_with (at_builtin; refine wpList_append_eq rfl (.tmp 5) (.tmp 6) 22 22 rfl rfl rfl r2 ?_)
    go_ret
    exact ⟨_, rfl, HX.out⟩
  | none =>
    obtain ⟨rfl, rfl⟩ := hnil rfl
    clear h hn hnil
    go_enter Try.func21, Try.ntmps21
    go_wp2
    go_ret
    exact ⟨_, rfl, World.ownsRow_nil _ _ _ _, Below.refl _ _⟩
end Go.Proofs.Ytandfbepenjbhaa
