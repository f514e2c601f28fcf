/- The reference's Lsh, Rsh and Uint64: contracts. -/
import Derived.Test.YtfopcipapphogaaBig10
namespace Go.Proofs.Ytfopcipapphogaa
open Go.RowKit

set_option maxRecDepth 100000 in
set_option maxHeartbeats 4000000 in
theorem lsh_int (gz gx : Nat) (x : Int) (N : Nat) (w : World) (hz : Room w gz) (hx : IntAt w gx x) (hN : N ≤ 3200000) (hv : Fits (x * 2 ^ N).natAbs) :
    Calls Try.prog 51 #[.pointer (some ⟨gz, 0, none⟩), .pointer (some ⟨gx, 0, none⟩), .int .u64 N] w fun e w' =>
      e = .returned (.pointer (some ⟨gz, 0, none⟩)) ∧ w.grownBy w' (some gz) ∧ IntAt w' gz (x * 2 ^ N) := by
  obtain ⟨s, A, n, c, f, hg, h1, h2, hd, hs, ht, hz1, rfl⟩ := hx
  have ev : sg s (val n f) * 2 ^ N = sg s (val n f * 2 ^ N) := by cases s <;> simp [sg, Int.neg_mul]
  rw [ev, sg_abs] at hv
  rw [ev]
  clear ev
  have hn := h2.2
  have c0 : w.cell? ⟨gx, 0, none⟩ = some (.bool s) := hg.cell (by decide)
  have c1 : w.cell? ⟨gx, 1, none⟩ = some (.slice A n c) := hg.cell (by decide)
  have lx := hg.lt
  have lz := hz.lt
  obtain ⟨h0, hz0⟩ := hz
  have z0 := hz0.cell (i := 0) (by decide)
  have z1 := hz0.cell (i := 1) (by decide)
  have y0 := hz0.frozen 0
  have y1 := hz0.frozen 1
  clear h2
  have hw1 : IntKind.i64.wrap (N : Int) = N := by rw [IntKind.wrap_i64]; omega
  go_enter Try.func51, Try.ntmps51
  go_wp2_with fail
  go_region_with ((go_at_call 80; (with_reducible refine (shl_any A n c N (N / 32) (N % 32) f _ ?_ hs hn ?_ ?_ ?_).mono ?_); (exact hd); (omega); (omega); (omega); rintro e w1 ⟨b, m, h, rfl, k1, k2, k3, k4, k5, k6, k7⟩; have x0 := (k7.cell (p := ⟨gx, 0, none⟩) (by exact lx)).trans (by exact c0); have w0 := (k7.cell (p := ⟨gz, 0, none⟩) (by exact lz)).trans (by exact z0); have w2 := (k7.cell (p := ⟨gz, 1, none⟩) (by exact lz)).trans (by exact z1); have v0 := (k7.frozen (p := ⟨gz, 0, none⟩) (by exact lz)).trans (by exact y0); have v1 := (k7.frozen (p := ⟨gz, 1, none⟩) (by exact lz)).trans (by exact y1); have K6 := Lib.hid k6; clear k6))
  all_goals go_wp2_with fail
  all_goals refine (trim_laid w _ w1 gz b _ m s h ?_ (by exact k7) hz0 k4 k1 k2 k5 (by rw [K6.out]; exact hv)).mono ?_
  all_goals first | exact (Below.refl _ _).drew | skip
  all_goals rintro e w' ⟨rfl, hgr, hi⟩
  all_goals go_wp2
  all_goals go_ret
  all_goals exact ⟨rfl, hgr, by rw [← K6.out]; exact hi⟩

end Go.Proofs.Ytfopcipapphogaa
