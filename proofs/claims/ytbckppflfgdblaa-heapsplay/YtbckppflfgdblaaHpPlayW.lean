/- HeapsPlay returns true for every argument: the walk. -/
import Derived.Test.YtbckppflfgdblaaHp23
import Derived.Test.YtbckppflfgdblaaHpUpd
namespace Go.Proofs.Ytbckppflfgdblaa
open Go.RowKit Go.Maps

theorem Came.at {w : World} {A : Option Addr} {cap b off : Nat} {os : List Op4} (h : Came w A cap b off os) (h0 : 0 < os.length) : A = some ⟨b, off, none⟩ := by
  rcases h.at_ with ⟨a, rfl, ha⟩ | ⟨_, rfl, _⟩
  · rw [ha h0]
  · cases h0
theorem Came.play {w w1 : World} {A : Option Addr} {cap b off n : Nat} {os : List Op4} (h : Came w A cap b off os) (hn : os.length = n) (hb : Below w.heap.size w w1) :
    Calls Try.prog 8 #[.slice A n cap] w1 fun e w' => ∃ E P L, e = .returned (.tuple #[E, P, L]) ∧ Res os w E P L w' := by
  subst hn
  have h' := h.below hb
  refine (play_any h'.at h'.ops h'.lt h'.ids (by have := h.size; omega)).mono ?_
  rintro e w' ⟨E, P, L, rfl, k1, k2, k3, k4⟩
  exact ⟨E, P, L, rfl, nums_base k1, nums_base k2, nums_base k3, hb.trans (k4.mono hb.size)⟩
theorem Came.cplay {w w1 : World} {A : Option Addr} {cap b off n : Nat} {os : List Op4} (h : Came w A cap b off os) (hn : os.length = n) (hb : Below w.heap.size w w1) :
    Calls Try.prog 9 #[.slice A n cap] w1 fun e w' => ∃ E P L, e = .returned (.tuple #[E, P, L]) ∧ Res os w1 E P L w' := by
  subst hn
  have h' := h.below hb
  refine (cplay_any h'.at h'.ops h'.lt h'.ids (by have := h.size; omega)).mono ?_
  rintro e w' ⟨E, P, L, rfl, k1, k2, k3, k4⟩
  exact ⟨E, P, L, rfl, nums_base k1, nums_base k2, nums_base k3, k4⟩
/-- Two answers that are the same. -/
theorem res_equal {os : List Op4} {V W1 wc : World} {E P L E' P' L' : Value} (h1 : Res os V E P L W1) (h2 : Res os W1 E' P' L' wc) (hn : os.length ≤ 5000000000000) (k : Nat) :
    (Calls Try.prog 10 #[E, E'] (wc.drewN k) fun e w' => e = .returned (.bool true) ∧ ∃ k, w' = wc.drewN k) ∧
    (Calls Try.prog 11 #[P, P'] (wc.drewN k) fun e w' => e = .returned (.bool true) ∧ ∃ k, w' = wc.drewN k) ∧
    (Calls Try.prog 11 #[L, L'] (wc.drewN k) fun e w' => e = .returned (.bool true) ∧ ∃ k, w' = wc.drewN k) := by
  obtain ⟨b1, b2⟩ := run_bound q0 os
  have h0 : q0.n = 0 := rfl
  have hl := run_length q0 os
  have k1 := h1.below h2.2.2.2
  refine ⟨?_, ?_, ?_⟩
  · refine (equal_errs (w := wc.drewN k) k1.1 h2.1 (by omega)).mono ?_
    rintro e w' ⟨rfl, j, rfl⟩
    exact ⟨by simp, k + j, World.drewN_drewN _ _ _⟩
  · refine (equal_ints (w := wc.drewN k) k1.2.1 h2.2.1 (by omega)).mono ?_
    rintro e w' ⟨rfl, j, rfl⟩
    exact ⟨by simp, k + j, World.drewN_drewN _ _ _⟩
  · refine (equal_ints (w := wc.drewN k) k1.2.2.1 h2.2.2.1 (by rw [drainF_length]; omega)).mono ?_
    rintro e w' ⟨rfl, j, rfl⟩
    exact ⟨by simp, k + j, World.drewN_drewN _ _ _⟩

set_option maxHeartbeats 1000000 in
theorem play_law {w : World} {A : Option Addr} {cap b off n : Nat} {os : List Op4} (h : Came w A cap b off os) (hlen : os.length = n) :
    Calls Try.prog 3 #[.slice A n cap] w fun e w' => e = .returned (.bool true) ∧ Below w.heap.size w w' := by
  have HP := Lib.hid (h.play hlen (Below.refl _ _))
  have HC := Lib.hid (And.intro h hlen)
  clear h hlen
  go_enter Try.func3, Try.ntmps3
  go_wp2_with fail
  refine HP.out.mono ?_
  rintro e w1 ⟨E, P, L, rfl, hR1⟩
  have HR1 := Lib.hid hR1
  have HQ := Lib.hid (HC.out.1.cplay HC.out.2 hR1.2.2.2)
  clear hR1
  go_wp2_with fail
  refine HQ.out.mono ?_
  rintro e w2 ⟨E', P', L', rfl, hR2⟩
  have HR2 := Lib.hid hR2
  have HE := Lib.hid (res_equal HR1.out hR2 (by have := HC.out.1.size; omega))
  clear hR2
  go_wp2_with fail
  refine (HE.out 0).1.mono ?_
  rintro e w3 ⟨rfl, k3, rfl⟩
  go_wp2_with fail
  refine (HE.out k3).2.1.mono ?_
  rintro e w4 ⟨rfl, k4, rfl⟩
  go_wp2_with fail
  refine (HE.out k4).2.2.mono ?_
  rintro e w5 ⟨rfl, k5, rfl⟩
  go_wp2
  go_ret
  have hb := HR1.out.2.2.2.trans (HR2.out.2.2.2.mono HR1.out.2.2.2.size)
  exact ⟨rfl, hb.os, hb.tape, hb.output, hb.size, hb.block⟩

end Go.Proofs.Ytbckppflfgdblaa
