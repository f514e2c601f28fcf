/- Slices of ints: slices.Clone. -/
import Derived.Test.YtgphbplmkegdeaaIn3b
namespace Go.Proofs.Ytgphbplmkegdeaa
open Go.RowKit Go.Maps

def ClonedI (xs : List Int) (w : World) (e : Ending) (w' : World) : Prop := ∃ A cap, e = .returned (.slice A xs.length cap) ∧ Fifo w.heap.size w' A xs cap ∧ Below w.heap.size w w'
set_option maxRecDepth 100000 in
set_option maxHeartbeats 4000000 in
theorem clone_any {w : World} {A : Option Addr} {xs : List Int} (h : IntsIn w A xs) (cap : Nat) (hnil : A = none → xs = []) (hn : xs.length * 8 ≤ 140737488355328) :
    Calls Try.prog 25 #[.slice A xs.length cap] w (ClonedI xs w) := by
  have hnl : ∀ (w : World) (a : Option Addr) (n c n' c' : Nat), (binOp .eql 22 (.slice a n c) (.slice none n' c')).run Try.prog w = .ok (.bool a.isNone) w := fun w a n c n' c' => Lib.run_eql_slice_nil w _ _ a n c n' c' under_ints
  cases A with
  | none =>
    obtain rfl := hnil rfl
    have HZ : Hid (ClonedI [] w (.returned (.slice none 0 0)) w) := Lib.hid ⟨none, 0, rfl, Fifo.nil _ _, Below.refl _ _⟩
    generalize ClonedI [] w = D at *
    clear h hnil hn
    go_enter Try.func25, Try.ntmps25
    go_wp2_with fail
    exact HZ.out
  | some a =>
    have hb1 : Below w.heap.size w (w.alloc (.cells #[] 3)) := (Below.refl _ _).alloc (Nat.le_refl _) _
    obtain ⟨A', cap', W, hr, hf, hc, hab⟩ := fifo_app (Fifo.empty (w.alloc (.cells #[] 3)) w.heap.size (Nat.le_refl _) (by simp)) (h.below hb1) cap hb1.size (by simpa using hn)
    have hW : Below w.heap.size w W := by
      have := hc.below hb1.size (fun k hk => by obtain ⟨a, e, rfl⟩ := hk; injection e with e; subst e; exact Nat.le_refl _)
      exact hb1.trans this
    simp only [List.length_nil, Nat.zero_add, List.nil_append] at hr hf
    have HR := Lib.hid hr
    have HZ : Hid (ClonedI xs w (.returned (.slice A' xs.length cap')) W) := Lib.hid ⟨A', cap', rfl, hf, hW⟩
    generalize ClonedI xs w = D at *
    clear h hnil hn hb1 hr hf hc hab hW
    go_enter Try.func25, Try.ntmps25
    go_wp2_with (at_builtin; refine wpList_append_eq rfl (.tmp 5) (.tmp 6) 22 22 rfl rfl rfl (HR.out _) ?_)
    exact HZ.out
end Go.Proofs.Ytgphbplmkegdeaa
