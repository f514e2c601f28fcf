/- Package share: cmp.Compare; the closure of ascending; slices.SortFunc under it. -/
import Derived.Test.YtlpchakoikmbnaaSh2
import Derived.Test.YtlpchakoikmbnaaShShelf
import Derived.Test.YtlpchakoikmbnaaIn2
namespace Go.Proofs.Ytlpchakoikmbnaa
open Go.RowKit Go.Maps

set_option maxHeartbeats 1000000 in
theorem compare_any (x y : Int) (w : World) : Calls Try.prog 27 #[.int .i64 x, .int .i64 y] w fun e w' => e = .returned (.int .i64 (cmpI x y)) ∧ w = w' := by
  unfold cmpI
  rcases Int.lt_trichotomy x y with c | c | c
  · rw [if_pos c]
    go_enter Try.func27, Try.ntmps27
    go_wp2
    go_ret
    exact ⟨rfl, rfl⟩
  · subst c
    rw [if_neg (by omega)]
    go_enter Try.func27, Try.ntmps27
    go_wp2
    go_ret
    exact ⟨rfl, rfl⟩
  · rw [if_neg (by omega), if_pos c]
    have c2 : ¬ x < y := by omega
    go_enter Try.func27, Try.ntmps27
    go_wp2
    go_ret
    exact ⟨rfl, rfl⟩

set_option maxRecDepth 100000 in
set_option maxHeartbeats 4000000 in
theorem closure_any {w : World} {A B : Option Addr} {xs ys : List Int} {n cx cy b0 b1 : Nat} (hx : IntsIn w A xs) (hy : IntsIn w B ys) (hnx : xs.length = n) (hny : ys.length = n)
    (h0 : w.cell? ⟨b0, 0, none⟩ = some (.slice A n cx)) (h1 : w.cell? ⟨b1, 0, none⟩ = some (.slice B n cy)) (hwx : ∀ k, 0 ≤ fn xs k ∧ fn xs k ≤ 1048576) (hwy : ∀ k, 0 ≤ fn ys k ∧ fn ys k ≤ 1000) {i j : Nat} (hi : i < n) (hj : j < n) :
    Calls Try.prog 26 #[.int .i64 (i : Int), .int .i64 (j : Int), .pointer (some ⟨b0, 0, none⟩), .pointer (some ⟨b1, 0, none⟩)] w fun e w' => e = .returned (.int .i64 (cmpI (fn xs i * fn ys j) (fn xs j * fn ys i))) ∧ ∃ q, w' = w.drewN q := by
  obtain ⟨gx, ox, x1, eA, a1, a2, _⟩ := hx.next (i := i) (by omega)
  obtain ⟨gx', ox', x2, eA', b1', b2, _⟩ := hx.next (i := j) (by omega)
  obtain ⟨gy, oy, y1, eB, c1, c2, _⟩ := hy.next (i := i) (by omega)
  obtain ⟨gy', oy', y2, eB', d1, d2, _⟩ := hy.next (i := j) (by omega)
  subst eA eB
  injection eA' with e1
  injection eB' with e2
  simp only [Addr.mk.injEq, and_true] at e1 e2
  obtain ⟨rfl, rfl⟩ := e1
  obtain ⟨rfl, rfl⟩ := e2
  have f1 := hwx i
  have f2 := hwx j
  have f3 := hwy i
  have f4 := hwy j
  rw [fn_at a1] at f1 ⊢
  rw [fn_at b1'] at f2 ⊢
  rw [fn_at c1] at f3 ⊢
  rw [fn_at d1] at f4 ⊢
  obtain ⟨P, hP⟩ : ∃ P, x1 * y2 = P := ⟨_, rfl⟩
  obtain ⟨Q, hQ⟩ : ∃ Q, x2 * y1 = Q := ⟨_, rfl⟩
  have q1 : IntKind.i64.wrap (x1 * y2) = P := by rw [← hP]; exact mul_wrap (a := x1) (d := y2) (by omega) (by omega)
  have q2 : IntKind.i64.wrap (x2 * y1) = Q := by rw [← hQ]; exact mul_wrap (a := x2) (d := y1) (by omega) (by omega)
  have i1 : (i : Int) < (n : Int) := by omega
  have j1 : (j : Int) < (n : Int) := by omega
  rw [hP, hQ]
  have HC := Lib.hid (fun W => compare_any P Q W)
  generalize cmpI P Q = R at *
  clear hx hy hnx hny hwx hwy a1 b1' c1 d1 f1 f2 f3 f4 hP hQ hi hj
  go_enter Try.func26, Try.ntmps26
  go_upto_region 1 with fail
  go_quiet (first | (go_at_call 27; with_reducible exact quiet_eq (HC.out _)))
  go_wp2_with fail
  go_ret
  exact ⟨rfl, _, rfl⟩
end Go.Proofs.Ytlpchakoikmbnaa
