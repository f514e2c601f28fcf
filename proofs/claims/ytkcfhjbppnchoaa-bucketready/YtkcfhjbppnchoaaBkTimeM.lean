/- Time goes by as it goes by: plain. -/
import Derived.Test.YtkcfhjbppnchoaaBk13
namespace Go.Proofs.Ytkcfhjbppnchoaa

theorem fill_zero {b : Bk} {t : Int} (h : (b.fill t).2 = 0) : b.Ok ∧ b.tm ≤ t ∧ t ≤ 1099511627776 ∧ b.fill t = (b.to t, 0) := by
  rcases fill_cases b t with ⟨h1, h2, h3⟩ | ⟨c, h1, h2, _⟩
  · obtain ⟨a, k⟩ := btw_true.1 h2
    exact ⟨Bk.right_iff.1 h1, a, k, h3⟩
  · rw [h1] at h
    dsimp only at h
    omega
theorem fill_of {b : Bk} (h : b.Ok) {t : Int} (t0 : b.tm ≤ t) (t1 : t ≤ 1099511627776) : b.fill t = (b.to t, 0) := by
  unfold Bk.fill
  rw [Bk.right_iff.2 h, btw_true.2 ⟨t0, t1⟩]
  rfl
theorem to_to {b : Bk} (h : b.Ok) {x y : Int} (x0 : b.tm ≤ x) (xy : x ≤ y) : (b.to x).to y = b.to y := by
  have e : b.num * (y - b.tm) = b.num * (x - b.tm) + b.num * (y - x) := by rw [← Int.mul_add]; congr 1; omega
  have h1 := Int.mul_nonneg h.n0 (show 0 ≤ y - x by omega)
  have h2 := h.l1
  have h3 := Int.mul_nonneg h.n0 (show 0 ≤ x - b.tm by omega)
  have : (b.to x).level y = b.level y := by
    show min (b.level x + b.num * (y - x)) (b.burst * b.den) = b.level y
    unfold Bk.level
    omega
  unfold Bk.to at this ⊢
  dsimp only at this ⊢
  rw [this]
theorem to_less {b : Bk} (c : Bk) (e1 : c.num = b.num) (e2 : c.den = b.den) (e3 : c.burst = b.burst) (e4 : c.tm = b.tm) (hl : c.lev ≤ b.lev) (y : Int) : c.level y ≤ b.level y := by
  unfold Bk.level
  rw [e1, e2, e3, e4]
  omega
theorem time_all {b : Bk} {x y n : Int} (h1 : (b.fill x).2 = 0) (h2 : ((b.fill x).1.fill y).2 = 0) :
    b.fill y = (((b.fill x).1.fill y).1, 0) ∧ ((b.take x n).2.2 ≠ 0 ∨ (((b.take x n).1.fill y).2 = 0 ∧ ((b.take x n).1.fill y).1.lev ≤ ((b.fill x).1.fill y).1.lev ∧ (b.take x n).1.lev ≤ (b.fill x).1.lev)) := by
  obtain ⟨hok, x0, x1, e1⟩ := fill_zero h1
  rw [e1] at h2 ⊢
  obtain ⟨hok2, y0, y1, e2⟩ := fill_zero h2
  have y0' : x ≤ y := y0
  rw [e2, fill_of hok (by omega) y1]
  dsimp only
  refine ⟨by rw [to_to hok x0 y0'], ?_⟩
  rcases take_ok hok x n with ⟨k1, k2, k3, k4, k5, k6, k7⟩ | ⟨k1, _⟩
  · right
    have hs := hok.shoot x0 x1 k5 k6
    rw [k7]
    dsimp only
    have hle : (b.shoot x n).1.lev ≤ (b.to x).lev := by
      unfold Bk.shoot
      split
      · show b.level x - n * b.den ≤ b.level x
        have := (hok.needs k5 k6).1
        omega
      · exact Int.le_refl _
    rw [fill_of hs.1 (by rw [hs.2.1]; exact y0') y1]
    exact ⟨rfl, to_less (b := b.to x) _ hs.2.2.2.1 hs.2.2.1 hs.2.2.2.2 hs.2.1 hle y, hle⟩
  · left
    rw [k1]
    decide
theorem ready_one {b : Bk} {n r : Int} (h : b.ready n = (r, true, 0)) : b.Ok ∧ b.tm ≤ r ∧ r ≤ 1099511627776 ∧ (∃ c, b.take r n = (c, true, 0)) ∧ (r ≠ b.tm → ∃ c, b.take (r - 1) n = (c, false, 0)) := by
  have hr : b.right = true := by
    cases hr : b.right with
    | true => rfl
    | false => rw [ready_no hr] at h; simp at h
  have hn : btw n 0 1048576 = true := by
    cases hn : btw n 0 1048576 with
    | true => rfl
    | false => rw [ready_size hr hn] at h; simp at h
  have hok := Bk.right_iff.1 hr
  obtain ⟨n0, n1⟩ := btw_true.1 hn
  rcases hok.ready n0 n1 with ⟨r', h1, h2, h3, h4⟩ | ⟨h1, _⟩
  · rw [h1] at h
    injection h with h
    subst h
    have key : ∀ t, b.tm ≤ t → t ≤ 1099511627776 → b.take t n = ((b.shoot t n).1, b.can n t, 0) := fun t t0 t1 => by
      rcases take_ok hok t n with ⟨_, _, _, _, _, _, k⟩ | ⟨_, k⟩
      · rw [k]
        unfold Bk.shoot Bk.can
        split
        · rename_i c; rw [decide_eq_true c]
        · rename_i c; rw [decide_eq_false c]
      · rw [btw_true.2 ⟨t0, t1⟩, hn] at k
        simp at k
    refine ⟨hok, h2, h3, ⟨_, by rw [key r' h2 h3, (h4 r' h2).2 (Int.le_refl _)]⟩, fun hne => ⟨_, by
      rw [key (r' - 1) (by omega) (by omega)]
      have : b.can n (r' - 1) = false := by
        rw [Bool.eq_false_iff]
        intro e
        have := (h4 (r' - 1) (by omega)).1 e
        omega
      rw [this]⟩⟩
  · rw [h1] at h
    simp at h
theorem ready_none {b : Bk} {n : Int} (h : (b.ready n).2.2 ≠ 0 ∨ (b.ready n).2.1 = false) : (b.ready n).1 = 0 := by
  revert h
  unfold Bk.ready
  (repeat' split) <;> (intro h; first | rfl | (exfalso; simp at h))
end Go.Proofs.Ytkcfhjbppnchoaa
