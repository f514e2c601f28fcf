/- The reference's Rsh and Uint64: contracts. -/
import Derived.Test.YtfopcipapphogaaBig11
namespace Go.Proofs.Ytfopcipapphogaa
open Go.RowKit

theorem shr_none (A : Option Addr) (n c N : Nat) (w : World) (h : n ≤ N / 32) (hN : N ≤ 3200000) :
    Calls Try.prog 82 #[.slice A n c, .int .i64 N] w fun e w' => e = .returned (.slice none 0 0) ∧ w = w' := by
  obtain ⟨q, hq⟩ : ∃ q, q = N / 32 := ⟨_, rfl⟩
  have e1 : (N : Int) / 32 = (q : Int) := by omega
  have hd : decide (n ≤ q) = true := by simp; omega
  clear hq
  go_enter Try.func82, Try.ntmps82
  go_wp2
  go_ret
  exact ⟨rfl, rfl⟩
theorem IntAt.nat {w : World} {g X : Nat} (h : IntAt w g (X : Int)) : ∃ (A : Option Addr) (n c : Nat) (f : Nat → Nat), w.rowIs g 32 2 (two (.bool false) (.slice A n c)) ∧ n ≤ c ∧ c ≤ 9223372036854775807 ∧ n ≤ 100000 ∧ Dig w A n f ∧ Small n f ∧ (0 < n → f (n - 1) ≠ 0) ∧ X = val n f := by
  obtain ⟨s, A, n, c, f, hg, h1, h2, hd, hs, ht, hz1, ex⟩ := h
  cases s
  · exact ⟨A, n, c, f, hg, h1, h2.1, h2.2, hd, hs, ht, by simp [sg] at ex; omega⟩
  · exfalso
    have h0 : 0 < n := by
      rcases Nat.eq_zero_or_pos n with h | h
      · have := hz1 h; contradiction
      · exact h
    have := val_ge h0 (ht h0)
    have p : 0 < 4294967296 ^ (n - 1) := Nat.pow_pos (by decide)
    simp [sg] at ex
    omega
/-- Rsh at a number that is not below 0. -/
theorem rsh_int (gz gx : Nat) (X N : Nat) (w : World) (hz : Room w gz) (hx : IntAt w gx X) (hN : N ≤ 3200000) :
    Calls Try.prog 57 #[.pointer (some ⟨gz, 0, none⟩), .pointer (some ⟨gx, 0, none⟩), .int .u64 N] w fun e w' =>
      e = .returned (.pointer (some ⟨gz, 0, none⟩)) ∧ w.grownBy w' (some gz) ∧ IntAt w' gz (X / 2 ^ N : Nat) := by
  obtain ⟨A, n, c, f, hg, h1, h2, hn, hd, hs, ht, rfl⟩ := hx.nat
  clear hx
  have hfit : Fits (val n f) := Fits.of (val_lt hs) (by show n ≤ 100000; exact hn)
  have hfit2 : Fits (val n f / 2 ^ N) := hfit.le (Nat.div_le_self _ _)
  have c0 : w.cell? ⟨gx, 0, none⟩ = some (.bool false) := hg.cell (by decide)
  have c1 : w.cell? ⟨gx, 1, none⟩ = some (.slice A n c) := hg.cell (by decide)
  have lz := hz.lt
  obtain ⟨h0, hz0⟩ := hz
  have z0 := hz0.cell (i := 0) (by decide)
  have z1 := hz0.cell (i := 1) (by decide)
  have y0 := hz0.frozen 0
  have y1 := hz0.frozen 1
  by_cases hq : N / 32 < n
  · obtain ⟨b0, rfl⟩ := hd.addr (by omega)
    go_enter Try.func57, Try.ntmps57
    go_wp2_with fail
    (with_reducible refine (shr_any b0 n c N (N / 32) (N % 32) f _ hd hs hn h1 ?_ ?_ hq).mono ?_)
    · omega
    · omega
    rintro e w1 ⟨b, m, h, rfl, k1, k2, k3, k4, k5, k6, k7⟩
    have w0 := (k7.cell (p := ⟨gz, 0, none⟩) lz).trans z0
    have w2 := (k7.cell (p := ⟨gz, 1, none⟩) lz).trans z1
    have v0 := (k7.frozen (p := ⟨gz, 0, none⟩) lz).trans y0
    have v1 := (k7.frozen (p := ⟨gz, 1, none⟩) lz).trans y1
    have K6 := Lib.hid k6
    clear k6
    go_wp2_with fail
    refine (trim_laid w w w1 gz b _ m false h (Below.refl _ _) k7 hz0 k4 k1 k2 k5 (by rw [K6.out]; exact hfit2)).mono ?_
    rintro e w' ⟨rfl, hgr, hi⟩
    go_wp2
    go_ret
    exact ⟨rfl, hgr, by rw [← K6.out]; exact hi⟩
  · have hzero : val n f / 2 ^ N = 0 := by
      apply Nat.div_eq_of_lt
      have e : N = 32 * (N / 32) + N % 32 := by omega
      have h3 := val_lt hs
      have h4 := Nat.pow_le_pow_right (show 0 < 4294967296 by decide) (show n ≤ N / 32 by omega)
      have h5 : 4294967296 ^ (N / 32) ≤ 2 ^ N := by rw [← pow_32]; exact Nat.pow_le_pow_right (by decide) (by omega)
      omega
    have HZ := Lib.hid hzero
    clear hzero
    have hq2 : n ≤ N / 32 := by omega
    go_enter Try.func57, Try.ntmps57
    go_wp2_with fail
    (with_reducible refine (shr_none A n c N _ hq2 hN).mono ?_)
    rintro e w1 ⟨rfl, rfl⟩
    go_wp2_with fail
    refine (trim_raw gz false none 0 0 (fun _ => 0) _ (two_of hz0 _ _) (Nat.le_refl _) (by decide) (fun h => by omega) (fun j hj => by omega) (Fits.of (k := 1) (by decide) (by decide))).mono ?_
    rintro e w' ⟨rfl, hgr, hi⟩
    go_wp2
    go_ret
    refine ⟨rfl, grown_trans (grown_here (grown_here (World.grownBy.refl w _) 0 _) 1 _) hgr, ?_⟩
    rw [HZ.out]
    exact hi

theorem val_mod2 {n : Nat} {f : Nat → Nat} (hs : Small n f) : val n f % 18446744073709551616 = val (min n 2) f := by
  by_cases h : n ≤ 2
  · rw [show min n 2 = n by omega]
    apply Nat.mod_eq_of_lt
    have h1 := val_lt hs
    have h2 := Nat.pow_le_pow_right (show 0 < 4294967296 by decide) h
    omega
  · rw [show min n 2 = 2 by omega]
    have e := val_shift (n - 2) 2 f
    rw [show 2 + (n - 2) = n by omega] at e
    have l := val_lt (hs.le (show 2 ≤ n by omega))
    rw [e, show (4294967296 : Nat) ^ 2 = 18446744073709551616 by decide, Nat.add_mul_mod_self_right]
    exact Nat.mod_eq_of_lt (by simpa using l)

theorem or_word {a b : Nat} (ha : a < 4294967296) (hb : b < 4294967296) : bits .or .u64 ((a : Int) * 4294967296) (b : Int) = ((a * 4294967296 + b : Nat) : Int) := by
  have e : (a : Int) * 4294967296 = ((a * 4294967296 : Nat) : Int) := by omega
  rw [e, bits_or_u64_nat _ _ (by omega) (by omega), Nat.mul_comm, ← Nat.two_pow_add_eq_or_of_lt (i := 32) hb]
set_option maxHeartbeats 1000000 in
theorem uint64_ge (gx : Nat) (A : Option Addr) (n c : Nat) (f : Nat → Nat) (w : World) (hg : w.rowIs gx 32 2 (two (.bool false) (.slice A n c))) (hd : Dig w A n f) (hs : Small n f) (hn : n ≤ 100000) (hm : 2 < n) :
    Calls Try.prog 26 #[.pointer (some ⟨gx, 0, none⟩)] w fun e w' => e = .returned (.int .u64 (val 2 f : Nat)) ∧ w = w' := by
  have c1 : w.cell? ⟨gx, 1, none⟩ = some (.slice A n c) := hg.cell (by decide)
  go_enter Try.func26, Try.ntmps26
  go_wp2
  go_loop [3, 4] (fun a i => ∃ k acc : Nat, k ≤ 2 ∧ i = .int .i64 ((k : Int) - 1) ∧ a = .int .u64 acc ∧ acc * 4294967296 ^ k + val k f = val 2 f) (fun _ i => (intOf i + 1).toNat)
  case atStart => exact ⟨2, 0, Nat.le_refl _, rfl, rfl, by simp⟩
  case round =>
    obtain ⟨k, acc, hk, rfl, rfl, he⟩ := hrel
    have HE := Lib.hid he
    by_cases h0 : k = 0
    · subst h0
      clear he
      go_wp2
      go_ret
      have h9 := HE.out
      rw [show val 0 f = 0 from rfl, Nat.pow_zero, Nat.mul_one, Nat.add_zero] at h9
      exact ⟨congrArg (fun x : Nat => Ending.returned (Value.int IntKind.u64 (x : Int))) h9, rfl⟩
    · obtain ⟨q, rfl⟩ : ∃ q, k = q + 1 := ⟨k - 1, by omega⟩
      obtain ⟨b, rfl⟩ := hd.addr (by omega)
      have hx := (hd.cell (j := q) (by omega)).1
      have hxs := hs q (by omega)
      have hacc : acc < 4294967296 := by
        have l := val_lt (hs.le (show 2 ≤ n by omega))
        have l2 := Nat.pow_le_pow_right (show 0 < 4294967296 by decide) (show 2 ≤ 2 by omega)
        have l3 : acc * 4294967296 ^ 1 ≤ acc * 4294967296 ^ (q + 1) := Nat.mul_le_mul_left _ (Nat.pow_le_pow_right (by decide) (by omega))
        omega
      have eq1 : ((q + 1 : Nat) : Int) - 1 = (q : Int) := by omega
      rw [eq1]
      have hq0 : (0 : Int) ≤ (q : Int) := by omega
      have hqn : (q : Int) < (n : Int) := by omega
      clear he
      go_wp2
      go_round
      case rel =>
        refine ⟨q, acc * 4294967296 + f q, by omega, rfl, congrArg (Value.int IntKind.u64) (or_word hacc hxs), ?_⟩
        have h9 := HE.out
        rw [show val (q + 1) f = val q f + f q * 4294967296 ^ q from rfl, Nat.pow_succ, Nat.mul_comm (4294967296 ^ q), ← Nat.mul_assoc] at h9
        rw [Nat.add_mul]
        omega
      case measure => simp [intOf]
set_option maxHeartbeats 1000000 in
theorem uint64_lt (gx : Nat) (A : Option Addr) (n c : Nat) (f : Nat → Nat) (w : World) (hg : w.rowIs gx 32 2 (two (.bool false) (.slice A n c))) (hd : Dig w A n f) (hs : Small n f) (hn : n ≤ 100000) (hm : n ≤ 2) :
    Calls Try.prog 26 #[.pointer (some ⟨gx, 0, none⟩)] w fun e w' => e = .returned (.int .u64 (val n f : Nat)) ∧ w = w' := by
  have c1 : w.cell? ⟨gx, 1, none⟩ = some (.slice A n c) := hg.cell (by decide)
  go_enter Try.func26, Try.ntmps26
  go_wp2
  go_loop [3, 4] (fun a i => ∃ k acc : Nat, k ≤ n ∧ i = .int .i64 ((k : Int) - 1) ∧ a = .int .u64 acc ∧ acc * 4294967296 ^ k + val k f = val n f) (fun _ i => (intOf i + 1).toNat)
  case atStart => exact ⟨n, 0, Nat.le_refl _, rfl, rfl, by simp⟩
  case round =>
    obtain ⟨k, acc, hk, rfl, rfl, he⟩ := hrel
    have HE := Lib.hid he
    by_cases h0 : k = 0
    · subst h0
      clear he
      go_wp2
      go_ret
      have h9 := HE.out
      rw [show val 0 f = 0 from rfl, Nat.pow_zero, Nat.mul_one, Nat.add_zero] at h9
      exact ⟨congrArg (fun x : Nat => Ending.returned (Value.int IntKind.u64 (x : Int))) h9, rfl⟩
    · obtain ⟨q, rfl⟩ : ∃ q, k = q + 1 := ⟨k - 1, by omega⟩
      obtain ⟨b, rfl⟩ := hd.addr (by omega)
      have hx := (hd.cell (j := q) (by omega)).1
      have hxs := hs q (by omega)
      have hacc : acc < 4294967296 := by
        have l := val_lt (hs.le (show n ≤ n by omega))
        have l2 := Nat.pow_le_pow_right (show 0 < 4294967296 by decide) (show n ≤ 2 by omega)
        have l3 : acc * 4294967296 ^ 1 ≤ acc * 4294967296 ^ (q + 1) := Nat.mul_le_mul_left _ (Nat.pow_le_pow_right (by decide) (by omega))
        omega
      have eq1 : ((q + 1 : Nat) : Int) - 1 = (q : Int) := by omega
      rw [eq1]
      have hq0 : (0 : Int) ≤ (q : Int) := by omega
      have hqn : (q : Int) < (n : Int) := by omega
      clear he
      go_wp2
      go_round
      case rel =>
        refine ⟨q, acc * 4294967296 + f q, by omega, rfl, congrArg (Value.int IntKind.u64) (or_word hacc hxs), ?_⟩
        have h9 := HE.out
        rw [show val (q + 1) f = val q f + f q * 4294967296 ^ q from rfl, Nat.pow_succ, Nat.mul_comm (4294967296 ^ q), ← Nat.mul_assoc] at h9
        rw [Nat.add_mul]
        omega
      case measure => simp [intOf]
theorem uint64_int (gx : Nat) (X : Nat) (w : World) (hx : IntAt w gx X) :
    Calls Try.prog 26 #[.pointer (some ⟨gx, 0, none⟩)] w fun e w' => e = .returned (.int .u64 (X % 18446744073709551616 : Nat)) ∧ w = w' := by
  obtain ⟨A, n, c, f, hg, h1, h2, hn, hd, hs, ht, rfl⟩ := hx.nat
  rw [val_mod2 hs]
  by_cases h : 2 < n
  · rw [show min n 2 = 2 by omega]
    exact uint64_ge gx A n c f w hg hd hs hn h
  · rw [show min n 2 = n by omega]
    exact uint64_lt gx A n c f w hg hd hs hn (by omega)
end Go.Proofs.Ytfopcipapphogaa
