/- The reference's CmpAbs: a contract. -/
import Derived.Test.YtemoleopabddnaaBig2a
import Derived.BigQuiet
import Derived.Deep.QuietTactic
namespace Go.Proofs.Ytemoleopabddnaa
open Go.RowKit

theorem val_agree {n k : Nat} {f g : Nat → Nat} (hk : k ≤ n) (h : ∀ j, k ≤ j → j < n → f j = g j) : val n f + val k g = val n g + val k f := by
  induction n with
  | zero => simp [show k = 0 by omega, val]
  | succ n ih =>
    rcases Nat.eq_or_lt_of_le hk with rfl | hlt
    · omega
    · have := ih (by omega) (fun j h1 h2 => h j h1 (by omega))
      simp only [val]
      rw [h n (by omega) (by omega)]
      omega
theorem val_lt_of {n k : Nat} {f g : Nat → Nat} (hk : k < n) (h : ∀ j, k + 1 ≤ j → j < n → f j = g j) (hf : Small n f) (hl : f k < g k) : val n f < val n g := by
  have e := val_agree (k := k + 1) hk h
  have l := val_lt (hf.le (show k ≤ n by omega))
  have m := Nat.mul_le_mul_right (4294967296 ^ k) (show f k + 1 ≤ g k from hl)
  rw [Nat.add_mul, Nat.one_mul] at m
  simp only [val] at e
  omega
theorem val_lt_len {n m : Nat} {f g : Nat → Nat} (hf : Small n f) (hg : 0 < m → g (m - 1) ≠ 0) (h : n < m) : val n f < val m g := by
  have l := val_lt hf
  have u := val_ge (show 0 < m by omega) (hg (by omega))
  have p := Nat.pow_le_pow_right (show 0 < 4294967296 by decide) (show n ≤ m - 1 by omega)
  omega
theorem cmpI_lt {x y : Nat} (h : x < y) : cmpI x y = -1 := by unfold cmpI; rw [if_pos (by omega)]
theorem cmpI_gt {x y : Nat} (h : y < x) : cmpI x y = 1 := by unfold cmpI; rw [if_neg (by omega), if_pos (by omega)]
theorem cmpI_eq {x y : Nat} (h : x = y) : cmpI x y = 0 := by unfold cmpI; rw [if_neg (by omega), if_neg (by omega)]

set_option maxRecDepth 100000 in
set_option maxHeartbeats 2000000 in
theorem cmpAbs_raw (g g' : Nat) (s s' : Bool) (A A' : Option Addr) (n n' c c' : Nat) (f f' : Nat → Nat) (w : World)
    (hg : w.rowIs g 45 2 (two (.bool s) (.slice A n c))) (hg' : w.rowIs g' 45 2 (two (.bool s') (.slice A' n' c'))) (hd : Dig w A n f) (hd' : Dig w A' n' f') (hs : Small n f) (hs' : Small n' f')
    (ht : 0 < n → f (n - 1) ≠ 0) (ht' : 0 < n' → f' (n' - 1) ≠ 0) (hn : n ≤ 1000000) (hn' : n' ≤ 1000000) :
    Calls Try.prog 54 #[.pointer (some ⟨g, 0, none⟩), .pointer (some ⟨g', 0, none⟩)] w fun e w' => e = .returned (.int .i64 (cmpI (val n f) (val n' f'))) ∧ ∃ k, w' = w.drewN k := by
  have c1 : w.cell? ⟨g, 1, none⟩ = some (.slice A n c) := hg.cell (by decide)
  have c1' : w.cell? ⟨g', 1, none⟩ = some (.slice A' n' c') := hg'.cell (by decide)
  by_cases hne : n = n'
  · subst hne
    have hb : ((n : Int) != (n : Int)) = false := by simp
    go_enter Try.func54, Try.ntmps54
    go_wp2
    go_quiet (fail)
    go_wp2
    go_loopw [5] (fun iv wr => ∃ (k m : Nat), k ≤ n ∧ iv = .int .i64 ((k : Int) - 1) ∧ wr = w.drewN m ∧ ∀ j, k ≤ j → j < n → f j = f' j) (fun iv _ => (intOf iv + 1).toNat)
    case atStart => exact ⟨n, _, Nat.le_refl _, rfl, rfl, fun j h1 h2 => by omega⟩
    case round =>
      obtain ⟨k, m, hk, rfl, rfl, hz⟩ := hrel
      have HZ := Lib.hid hz
      clear hz
      by_cases h0 : k = 0
      · subst h0
        go_wp2
        go_ret
        exact ⟨congrArg (fun x => Ending.returned (Value.int IntKind.i64 x)) (cmpI_eq (val_congr fun j hj => HZ.out j (by omega) hj)).symm, _, rfl⟩
      · obtain ⟨q, rfl⟩ : ∃ q, k = q + 1 := ⟨k - 1, by omega⟩
        obtain ⟨b, rfl⟩ := hd.addr (by omega)
        obtain ⟨b', rfl⟩ := hd'.addr (by omega)
        have hx := (hd.cell (j := q) (by omega)).1
        have hy := (hd'.cell (j := q) (by omega)).1
        have eq1 : ((q + 1 : Nat) : Int) - 1 = (q : Int) := by omega
        rw [eq1]
        have hq0 : (0 : Int) ≤ (q : Int) := by omega
        have hqn : (q : Int) < (n : Int) := by omega
        rcases Nat.lt_trichotomy (f q) (f' q) with hl | hl | hl
        · have e1 : (((f q : Nat) : Int) != ((f' q : Nat) : Int)) = true := by simp; omega
          have e2 : decide (f q < f' q) = true := by simp [hl]
          have E := Lib.hid (val_lt_of (show q < n by omega) HZ.out hs hl)
          go_wp2
          go_quiet (fail)
          go_wp2
          go_quiet (fail)
          go_wp2
          go_ret
          exact ⟨congrArg (fun x => Ending.returned (Value.int IntKind.i64 x)) (cmpI_lt E.out).symm, _, by rw [World.drewN_drewN, World.drewN_drewN]⟩
        · have e1 : (((f q : Nat) : Int) != ((f' q : Nat) : Int)) = false := by simp [hl]
          have HL := Lib.hid hl
          clear hl
          go_wp2
          go_quiet (fail)
          go_wp2
          go_roundw
          case rel =>
            refine ⟨q, _, by omega, rfl, rfl, fun j h1 h2 => ?_⟩
            rcases Nat.eq_or_lt_of_le h1 with rfl | h3
            · exact HL.out
            · exact HZ.out j h3 h2
          case measure => simp [intOf]
        · have e1 : (((f q : Nat) : Int) != ((f' q : Nat) : Int)) = true := by simp; omega
          have e2 : decide (f q < f' q) = false := by simp; omega
          have E := Lib.hid (val_lt_of (show q < n by omega) (fun j h1 h2 => (HZ.out j h1 h2).symm) hs' hl)
          go_wp2
          go_quiet (fail)
          go_wp2
          go_quiet (fail)
          go_wp2
          go_ret
          exact ⟨congrArg (fun x => Ending.returned (Value.int IntKind.i64 x)) (cmpI_gt E.out).symm, _, by rw [World.drewN_drewN, World.drewN_drewN]⟩
  · have hb : ((n : Int) != (n' : Int)) = true := by simp; omega
    rcases Nat.lt_or_gt_of_ne hne with hl | hl
    · have e2 : decide (n < n') = true := by simp [hl]
      go_enter Try.func54, Try.ntmps54
      go_wp2
      go_quiet (fail)
      go_wp2
      go_quiet (fail)
      go_wp2
      go_ret
      exact ⟨congrArg (fun x => Ending.returned (Value.int IntKind.i64 x)) (cmpI_lt (val_lt_len hs ht' hl)).symm, _, by rw [World.drewN_drewN]⟩
    · have e2 : decide (n < n') = false := by simp; omega
      go_enter Try.func54, Try.ntmps54
      go_wp2
      go_quiet (fail)
      go_wp2
      go_quiet (fail)
      go_wp2
      go_ret
      exact ⟨congrArg (fun x => Ending.returned (Value.int IntKind.i64 x)) (cmpI_gt (val_lt_len hs' ht hl)).symm, _, by rw [World.drewN_drewN]⟩

theorem sg_abs (s : Bool) (n : Nat) : (sg s n).natAbs = n := by cases s <;> simp [sg]
theorem cmpAbs_any (g g' : Nat) (x y : Int) (w : World) (hx : IntAt w g x) (hy : IntAt w g' y) :
    Calls Try.prog 54 #[.pointer (some ⟨g, 0, none⟩), .pointer (some ⟨g', 0, none⟩)] w fun e w' => e = .returned (.int .i64 (cmpI x.natAbs y.natAbs)) ∧ ∃ k, w' = w.drewN k := by
  obtain ⟨s, A, n, c, f, hr, h1, h2, hd, hs, ht, _, rfl⟩ := hx
  obtain ⟨s', A', n', c', f', hr', h1', h2', hd', hs', ht', _, rfl⟩ := hy
  have h3 := h2.2
  have h3' := h2'.2
  rw [sg_abs, sg_abs]
  exact cmpAbs_raw g g' s s' A A' n n' c c' f f' w hr hr' hd hd' hs hs' ht ht' (by omega) (by omega)

/-- What is left of the sign: nothing is never below 0. -/
theorem sg_neg {s : Bool} {n : Nat} {f : Nat → Nat} (ht : 0 < n → f (n - 1) ≠ 0) (hz : n = 0 → s = false) : s = decide (sg s (val n f) < 0) := by
  cases s
  · simp [sg]
  · have h0 : 0 < n := by
      rcases Nat.eq_zero_or_pos n with h | h
      · have := hz h; contradiction
      · exact h
    have := val_ge h0 (ht h0)
    have p : 0 < 4294967296 ^ (n - 1) := Nat.pow_pos (by decide)
    simp [sg]
    omega

theorem IntAt.drewN {w : World} {g : Nat} {z : Int} (h : IntAt w g z) (n : Nat) : IntAt (w.drewN n) g z := h.below ⟨rfl, rfl, rfl, Nat.le_refl _, fun _ _ => rfl⟩
theorem Room.drewN {w : World} {g : Nat} (h : Room w g) (n : Nat) : Room (w.drewN n) g := h.below ⟨rfl, rfl, rfl, Nat.le_refl _, fun _ _ => rfl⟩

end Go.Proofs.Ytemoleopabddnaa
