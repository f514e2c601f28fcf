/- The reference's Add, where the signs differ: contracts. -/
import Derived.Test.YtemoleopabddnaaBig5
namespace Go.Proofs.Ytemoleopabddnaa
open Go.RowKit

set_option maxRecDepth 100000 in
set_option maxHeartbeats 4000000 in
theorem add_ge (gz gx gy : Nat) (s s' : Bool) (A A' : Option Addr) (n n' c c' : Nat) (f f' : Nat → Nat) (w : World)
    (hz : Room w gz) (hg : w.rowIs gx 45 2 (two (.bool s) (.slice A n c))) (hg' : w.rowIs gy 45 2 (two (.bool s') (.slice A' n' c'))) (hd : Dig w A n f) (hd' : Dig w A' n' f') (hs : Small n f) (hs' : Small n' f')
    (hn : n ≤ 100000) (hn' : n' ≤ 100000) (ht : 0 < n → f (n - 1) ≠ 0) (ht' : 0 < n' → f' (n' - 1) ≠ 0) (he : s ≠ s') (hle : n' ≤ n) (hv2 : val n' f' ≤ val n f) (hv : Fits (val n f - val n' f')) :
    Calls Try.prog 43 #[.pointer (some ⟨gz, 0, none⟩), .pointer (some ⟨gx, 0, none⟩), .pointer (some ⟨gy, 0, none⟩)] w fun e w' =>
      e = .returned (.pointer (some ⟨gz, 0, none⟩)) ∧ w.grownBy w' (some gz) ∧ IntAt w' gz (sg s (val n f - val n' f')) := by
  have c0 : w.cell? ⟨gx, 0, none⟩ = some (.bool s) := hg.cell (by decide)
  have c1 : w.cell? ⟨gx, 1, none⟩ = some (.slice A n c) := hg.cell (by decide)
  have d0 : w.cell? ⟨gy, 0, none⟩ = some (.bool s') := hg'.cell (by decide)
  have d1 : w.cell? ⟨gy, 1, none⟩ = some (.slice A' n' c') := hg'.cell (by decide)
  have lx := hg.lt
  have ly := hg'.lt
  have lz := hz.lt
  obtain ⟨h0, hz0⟩ := hz
  have z0 := hz0.cell (i := 0) (by decide)
  have z1 := hz0.cell (i := 1) (by decide)
  have y0 := hz0.frozen 0
  have y1 := hz0.frozen 1
  have hb : (s == s') = false := by simp [he]
  have hcmp : decide (0 ≤ cmpI (val n f) (val n' f')) = true := by
    unfold cmpI; rw [if_neg (by omega)]; split <;> simp
  go_enter Try.func43, Try.ntmps43
  go_wp2_with fail
  go_quiet (fail)
  go_wp2_with fail
  refine (cmpAbs_raw gx gy s s' A A' n n' c c' f f' _ (by exact hg) (by exact hg') (by exact hd) (by exact hd') hs hs' ht ht' (by omega) (by omega)).mono ?_
  rintro e w9 ⟨rfl, k9, rfl⟩
  go_wp2_with fail
  go_region_with ((go_at_call 55; refine (less_any A A' n n' c c' f f' _ (by exact hd) (by exact hd') hs hs' hn hle hv2).mono ?_; rintro e w1 ⟨b, m, h, rfl, k1, k2, k3, k4, k5, k6, k7⟩; have x0 := (k7.cell (p := ⟨gx, 0, none⟩) (by exact lx)).trans (by exact c0); have w0 := (k7.cell (p := ⟨gz, 0, none⟩) (by exact lz)).trans (by exact z0); have w2 := (k7.cell (p := ⟨gz, 1, none⟩) (by exact lz)).trans (by exact z1); have v0 := (k7.frozen (p := ⟨gz, 0, none⟩) (by exact lz)).trans (by exact y0); have v1 := (k7.frozen (p := ⟨gz, 1, none⟩) (by exact lz)).trans (by exact y1); have K6 := Lib.hid k6; clear k6))
  all_goals go_wp2_with fail
  all_goals refine (trim_laid w _ w1 gz b _ m s h ?_ (by exact k7) hz0 k4 k1 k2 k5 (by rw [K6.out]; exact hv)).mono ?_
  all_goals first | exact below_drew2 w _ | skip
  all_goals rintro e w' ⟨rfl, hgr, hi⟩
  all_goals go_wp2
  all_goals go_ret
  all_goals exact ⟨rfl, hgr, by rw [← K6.out]; exact hi⟩
set_option maxRecDepth 100000 in
set_option maxHeartbeats 4000000 in
theorem add_lt (gz gx gy : Nat) (s s' : Bool) (A A' : Option Addr) (n n' c c' : Nat) (f f' : Nat → Nat) (w : World)
    (hz : Room w gz) (hg : w.rowIs gx 45 2 (two (.bool s) (.slice A n c))) (hg' : w.rowIs gy 45 2 (two (.bool s') (.slice A' n' c'))) (hd : Dig w A n f) (hd' : Dig w A' n' f') (hs : Small n f) (hs' : Small n' f')
    (hn : n ≤ 100000) (hn' : n' ≤ 100000) (ht : 0 < n → f (n - 1) ≠ 0) (ht' : 0 < n' → f' (n' - 1) ≠ 0) (he : s ≠ s') (hle : n ≤ n') (hv2 : val n f ≤ val n' f') (hv3 : val n f < val n' f') (hv : Fits (val n' f' - val n f)) :
    Calls Try.prog 43 #[.pointer (some ⟨gz, 0, none⟩), .pointer (some ⟨gx, 0, none⟩), .pointer (some ⟨gy, 0, none⟩)] w fun e w' =>
      e = .returned (.pointer (some ⟨gz, 0, none⟩)) ∧ w.grownBy w' (some gz) ∧ IntAt w' gz (sg s' (val n' f' - val n f)) := by
  have c0 : w.cell? ⟨gx, 0, none⟩ = some (.bool s) := hg.cell (by decide)
  have c1 : w.cell? ⟨gx, 1, none⟩ = some (.slice A n c) := hg.cell (by decide)
  have d0 : w.cell? ⟨gy, 0, none⟩ = some (.bool s') := hg'.cell (by decide)
  have d1 : w.cell? ⟨gy, 1, none⟩ = some (.slice A' n' c') := hg'.cell (by decide)
  have lx := hg.lt
  have ly := hg'.lt
  have lz := hz.lt
  obtain ⟨h0, hz0⟩ := hz
  have z0 := hz0.cell (i := 0) (by decide)
  have z1 := hz0.cell (i := 1) (by decide)
  have y0 := hz0.frozen 0
  have y1 := hz0.frozen 1
  have hb : (s == s') = false := by simp [he]
  have hcmp : decide (0 ≤ cmpI (val n f) (val n' f')) = false := by
    rw [cmpI_lt hv3]; rfl
  go_enter Try.func43, Try.ntmps43
  go_wp2_with fail
  go_quiet (fail)
  go_wp2_with fail
  refine (cmpAbs_raw gx gy s s' A A' n n' c c' f f' _ (by exact hg) (by exact hg') (by exact hd) (by exact hd') hs hs' ht ht' (by omega) (by omega)).mono ?_
  rintro e w9 ⟨rfl, k9, rfl⟩
  go_wp2_with fail
  go_region_with ((go_at_call 55; refine (less_any A' A n' n c' c f' f _ (by exact hd') (by exact hd) hs' hs hn' hle hv2).mono ?_; rintro e w1 ⟨b, m, h, rfl, k1, k2, k3, k4, k5, k6, k7⟩; have x0 := (k7.cell (p := ⟨gy, 0, none⟩) (by exact ly)).trans (by exact d0); have w0 := (k7.cell (p := ⟨gz, 0, none⟩) (by exact lz)).trans (by exact z0); have w2 := (k7.cell (p := ⟨gz, 1, none⟩) (by exact lz)).trans (by exact z1); have v0 := (k7.frozen (p := ⟨gz, 0, none⟩) (by exact lz)).trans (by exact y0); have v1 := (k7.frozen (p := ⟨gz, 1, none⟩) (by exact lz)).trans (by exact y1); have K6 := Lib.hid k6; clear k6))
  all_goals go_wp2_with fail
  all_goals refine (trim_laid w _ w1 gz b _ m s' h ?_ (by exact k7) hz0 k4 k1 k2 k5 (by rw [K6.out]; exact hv)).mono ?_
  all_goals first | exact below_drew2 w _ | skip
  all_goals rintro e w' ⟨rfl, hgr, hi⟩
  all_goals go_wp2
  all_goals go_ret
  all_goals exact ⟨rfl, hgr, by rw [← K6.out]; exact hi⟩
end Go.Proofs.Ytemoleopabddnaa
