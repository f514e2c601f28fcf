/- The reference's Add: a contract. -/
import Derived.Test.YtemoleopabddnaaBig3
import Derived.Test.YtemoleopabddnaaBig5a
import Derived.Deep.RegionWith
namespace Go.Proofs.Ytemoleopabddnaa
open Go.RowKit

set_option maxRecDepth 100000 in
set_option maxHeartbeats 4000000 in
theorem add_same_sign (gz gx gy : Nat) (s s' : Bool) (A A' : Option Addr) (n n' c c' : Nat) (f f' : Nat → Nat) (w : World)
    (hz : Room w gz) (hg : w.rowIs gx 45 2 (two (.bool s) (.slice A n c))) (hg' : w.rowIs gy 45 2 (two (.bool s') (.slice A' n' c'))) (hd : Dig w A n f) (hd' : Dig w A' n' f') (hs : Small n f) (hs' : Small n' f')
    (hn : n ≤ 100000) (hn' : n' ≤ 100000) (he : s = s') (hv : Fits (val n f + val n' f')) :
    Calls Try.prog 43 #[.pointer (some ⟨gz, 0, none⟩), .pointer (some ⟨gx, 0, none⟩), .pointer (some ⟨gy, 0, none⟩)] w fun e w' =>
      e = .returned (.pointer (some ⟨gz, 0, none⟩)) ∧ w.grownBy w' (some gz) ∧ IntAt w' gz (sg s (val n f + val n' f')) := by
  subst he
  have c0 : w.cell? ⟨gx, 0, none⟩ = some (.bool s) := hg.cell (by decide)
  have c1 : w.cell? ⟨gx, 1, none⟩ = some (.slice A n c) := hg.cell (by decide)
  have d0 : w.cell? ⟨gy, 0, none⟩ = some (.bool s) := hg'.cell (by decide)
  have d1 : w.cell? ⟨gy, 1, none⟩ = some (.slice A' n' c') := hg'.cell (by decide)
  have lx := hg.lt
  have ly := hg'.lt
  have lz := hz.lt
  obtain ⟨h0, hz0⟩ := hz
  have z0 := hz0.cell (i := 0) (by decide)
  have z1 := hz0.cell (i := 1) (by decide)
  have y0 := hz0.frozen 0
  have y1 := hz0.frozen 1
  go_enter Try.func43, Try.ntmps43
  go_wp2
  go_quiet (fail)
  go_wp2_with fail
  go_region_with ((go_at_call 53; refine (sum_any A A' n n' c c' f f' _ (by exact hd) (by exact hd') hs hs' hn hn').mono ?_; rintro e w1 ⟨L, b, m, h, rfl, k1, k2, k3, k4, k5, k6, k7⟩; have x0 := (k7.cell (p := ⟨gx, 0, none⟩) (by exact lx)).trans (by exact c0); have w0 := (k7.cell (p := ⟨gz, 0, none⟩) (by exact lz)).trans (by exact z0); have w2 := (k7.cell (p := ⟨gz, 1, none⟩) (by exact lz)).trans (by exact z1); have v0 := (k7.frozen (p := ⟨gz, 0, none⟩) (by exact lz)).trans (by exact y0); have v1 := (k7.frozen (p := ⟨gz, 1, none⟩) (by exact lz)).trans (by exact y1); have K6 := Lib.hid k6; clear k6))
  all_goals go_wp2_with fail
  all_goals refine (trim_laid w _ w1 gz b _ m s h ?_ (by exact k7) hz0 k4 k1 k2 k5 (by rw [K6.out]; exact hv)).mono ?_
  all_goals first | exact below_drew2 w _ | skip
  all_goals rintro e w' ⟨rfl, hgr, hi⟩
  all_goals go_wp2
  all_goals go_ret
  all_goals exact ⟨rfl, hgr, by rw [← K6.out]; exact hi⟩
end Go.Proofs.Ytemoleopabddnaa
