/- HeapsRemove returns true for every argument: the walk. -/
import Derived.Test.YtbckppflfgdblaaHp32
import Derived.Test.YtbckppflfgdblaaHpDel
import Derived.Test.YtbckppflfgdblaaHpUpd
import Derived.Deep.DeepCutAuto
import Derived.Deep.DrawnRows
import Derived.Deep.RegionHeld3
namespace Go.Proofs.Ytbckppflfgdblaa
open Go.RowKit Go.Maps
attribute [local go_sem ↓] Go.wp_at_zero Go.wp_at_succ

theorem Came.at {w : World} {A : Option Addr} {cap b off : Nat} {os : List Op4} (h : Came w A cap b off os) (h0 : 0 < os.length) : A = some ⟨b, off, none⟩ := by
  rcases h.at_ with ⟨a, rfl, ha⟩ | ⟨_, rfl, _⟩
  · rw [ha h0]
  · cases h0
theorem Came.play {w w1 : World} {A : Option Addr} {cap b off n : Nat} {os : List Op4} (h : Came w A cap b off os) (hn : os.length = n) (hb : Below w.heap.size w w1) :
    Calls Try.prog 8 #[.slice A n cap] w1 fun e w' => ∃ E P L, e = .returned (.tuple #[E, P, L]) ∧ Res os w E P L w' := by
  subst hn
  have h' := h.below hb
  refine (play_any h'.at h'.ops h'.lt h'.ids (by have := h.size; omega)).mono ?_
  rintro e w' ⟨E, P, L, rfl, k1, k2, k3, k4⟩
  exact ⟨E, P, L, rfl, nums_base k1, nums_base k2, nums_base k3, hb.trans (k4.mono hb.size)⟩
theorem Res.errs {os : List Op4} {w1 w : World} {E P L : Value} (h : Res os w1 E P L w) {n : Nat} (hn : os.length = n) (h0 : 0 < n) :
    ∃ g cap, E = .slice (some ⟨g, 0, none⟩) n cap ∧ ∀ j, j < n → w.cell? ⟨g, j, none⟩ = some (.int .i64 ((run q0 os).1.getD j 0)) := by
  subst hn
  have hl := run_length q0 os
  obtain ⟨A, cap, rfl, hA⟩ := h.1.form
  obtain ⟨g, rfl, hc⟩ := hA (by omega)
  rw [hl] at hc ⊢
  exact ⟨g, cap, rfl, hc⟩

/-- What the last test calls: each call's contract, in whatever world holds all that lay in wc. -/
structure Tests (os : List Op4) (x : Int) (kb : Nat) (P L P' L' : Value) (wc : World) : Prop where
  con : ∀ W, Below wc.heap.size wc W → Calls Try.prog 18 #[L, .int .i64 x] W fun e W' => e = .returned (.bool (decide (x ∈ drainF (run q0 os).2.2.n (run q0 os).2.2.M))) ∧ Below wc.heap.size wc W'
  eq1 : ∀ W, Below wc.heap.size wc W → Calls Try.prog 11 #[P, P'] W fun e W' => e = .returned (.bool true) ∧ Below wc.heap.size wc W'
  cln : ∀ W, Below wc.heap.size wc W → Calls Try.prog 20 #[L] W fun e W' => ∃ v, e = .returned v ∧ Below wc.heap.size wc W' ∧ NumsIs 3 wc.heap.size W' v (drainF (run q0 os).2.2.n (run q0 os).2.2.M)
  del : ∀ W v, Below wc.heap.size wc W → NumsIs 3 wc.heap.size W v (drainF (run q0 os).2.2.n (run q0 os).2.2.M) → Calls Try.prog 19 #[v, .func (.func 21) #[] #[.pointer (some ⟨kb, 0, none⟩)]] W fun e W' => ∃ v', e = .returned v' ∧ Below wc.heap.size wc W' ∧ NumsIs 3 wc.heap.size W' v' ((drainF (run q0 os).2.2.n (run q0 os).2.2.M).filter (fun y => !(y == x)))
  eq2 : ∀ W v, Below wc.heap.size wc W → NumsIs 3 wc.heap.size W v ((drainF (run q0 os).2.2.n (run q0 os).2.2.M).filter (fun y => !(y == x))) → Calls Try.prog 11 #[L', v] W fun e W' => e = .returned (.bool true) ∧ Below wc.heap.size wc W'

theorem drew_below {w W : World} {B k : Nat} (h : Below B w W) : Below B w (W.drewN k) := ⟨h.os, h.tape, h.output, h.size, h.block⟩
theorem nums_drew {t : TypeId} {B : Nat} {w : World} {v : Value} {xs : List Int} (h : NumsIs t B w v xs) (k : Nat) : NumsIs t B (w.drewN k) v xs := h
theorem tests {os : List Op4} {x : Int} {kb : Nat} {E P L E' P' L' : Value} {V W1 wc : World} (h1 : Res os V E P L W1) (h2 : Res (os ++ [⟨3, x, 0, 0⟩]) W1 E' P' L' wc) (hn : os.length ≤ 5000000000000) (hk : wc.cell? ⟨kb, 0, none⟩ = some (.int .i64 x)) (hkl : kb < wc.heap.size) : Tests os x kb P L P' L' wc := by
  obtain ⟨b1, b2⟩ := run_bound q0 os
  have h0 : q0.n = 0 := rfl
  have hl := drainF_length (run q0 os).2.2.n (run q0 os).2.2.M
  have k1 := h1.below h2.2.2.2
  obtain ⟨_, s2, s3⟩ := remove_spec (os := os) rfl x
  have k2 := h2
  unfold Res at k1 k2
  rw [s2, s3] at k2
  refine ⟨fun W hW => ?_, fun W hW => ?_, fun W hW => ?_, fun W v hW hv => ?_, fun W v hW hv => ?_⟩
  · refine (contains_ints (k1.2.2.1.below hW) (by omega) x).mono ?_
    rintro e W' ⟨rfl, rfl⟩
    exact ⟨rfl, hW⟩
  · refine (equal_ints (k1.2.1.below hW) (k2.2.1.below hW) (by omega)).mono ?_
    rintro e W' ⟨rfl, k, rfl⟩
    exact ⟨by simp, drew_below hW⟩
  · refine (clone_ints (k1.2.2.1.below hW) (by omega)).mono ?_
    rintro e W' ⟨v, rfl, hv, hb⟩
    exact ⟨v, rfl, hW.trans (hb.mono hW.size), hv.1, hv.2.imp id (fun ⟨g, cap, cur, a, b, c⟩ => ⟨g, cap, cur, a, Nat.le_trans hW.size b, c⟩)⟩
  · refine (deleteFunc_ints hv (by rw [(bcell hW).1 _ _ hkl]; exact hk) (Nat.lt_of_lt_of_le hkl hW.size) (fun e => ?_) (by omega)).mono ?_
    · have := (World.ownsRow.lt hv kb e).1
      omega
    · rintro e W' ⟨v', rfl, hv', hc⟩
      exact ⟨v', rfl, hW.trans (hc.below hW.size (fun k hk => (World.ownsRow.lt hv k hk).1)), hv'⟩
  · refine (equal_ints (k2.2.2.1.below hW) hv (by have := List.length_filter_le (fun y => !(y == x)) (drainF (run q0 os).2.2.n (run q0 os).2.2.M); omega)).mono ?_
    rintro e W' ⟨rfl, k, rfl⟩
    exact ⟨by simp, drew_below hW⟩

end Go.Proofs.Ytbckppflfgdblaa
