/- The reference's BitLen, IsInt64, Int64; BRight, BFrac: contracts. -/
import Derived.Test.YtfopcipapphogaaRat3
namespace Go.Proofs.Ytfopcipapphogaa
open Go.RowKit

theorem bit_of {n q r : Nat} {f : Nat → Nat} (hs : Small n f) (hq : q < n) (hr : r < 32) : val n f / 2 ^ (32 * q + r) % 2 = f q / 2 ^ r % 2 := by
  rw [Nat.pow_add, pow_32, ← Nat.div_div_eq_div_mul, val_div hs (by omega)]
  obtain ⟨m, hm⟩ : ∃ m, n - q = 1 + m := ⟨n - q - 1, by omega⟩
  rw [hm, val_shift m 1]
  simp only [val, Nat.pow_zero, Nat.mul_one, Nat.add_zero, Nat.zero_add, Nat.pow_one]
  generalize val m (fun j => f (q + (1 + j))) = T
  obtain ⟨t, ht⟩ : ∃ t, 32 = r + (t + 1) := ⟨31 - r, by omega⟩
  have e : (4294967296 : Nat) = 2 ^ r * (2 ^ t * 2) := by
    rw [← Nat.pow_succ, ← Nat.pow_add, show r + t.succ = 32 by omega]
  rw [e, show T * (2 ^ r * (2 ^ t * 2)) = 2 ^ r * (2 * (2 ^ t * T)) by ac_rfl, Nat.add_mul_div_left _ _ (Nat.two_pow_pos r), Nat.add_mul_mod_self_left]
theorem top_off {X k : Nat} (h : X < 2 ^ (k + 1)) (hb : X / 2 ^ k % 2 = 0) : X < 2 ^ k := by
  have h1 : X / 2 ^ k < 2 := Nat.div_lt_of_lt_mul (by rw [← Nat.pow_succ]; exact h)
  have h2 : X / 2 ^ k = 0 := by
    generalize X / 2 ^ k = Q at h1 hb ⊢
    omega
  exact Nat.lt_of_div_eq_zero (Nat.two_pow_pos k) h2
theorem top_on {X k : Nat} (hb : X / 2 ^ k % 2 ≠ 0) : 2 ^ k ≤ X := by
  rcases Nat.lt_or_ge X (2 ^ k) with h | h
  · rw [Nat.div_eq_of_lt h] at hb
    simp at hb
  · exact h

theorem and_one_u32 {a : Nat} (ha : a < 4294967296) : bits .and .u32 (a : Int) 1 = ((a % 2 : Nat) : Int) := by
  have e : ∀ c : Nat, c < 4294967296 → (BitVec.ofInt 32 (c : Int)).toNat = c := fun c hc => by
    rw [BitVec.ofInt_natCast, BitVec.toNat_ofNat]
    exact Nat.mod_eq_of_lt (by omega)
  show IntKind.u32.wrap ((BitVec.ofInt 32 (a : Int) &&& BitVec.ofInt 32 ((1 : Nat) : Int)).toNat : Int) = _
  rw [BitVec.toNat_and, e a ha, e _ (by decide), Nat.and_one_is_mod, IntKind.wrap_u32]
  omega

/-- L bits has X. -/
structure Bits (X L : Nat) : Prop where
  lt : X < 2 ^ L
  ge : 0 < L → 2 ^ (L - 1) ≤ X

set_option maxHeartbeats 1000000 in
theorem bitLen_any (gx : Nat) (x : Int) (w : World) (hx : IntAt w gx x) :
    Calls Try.prog 78 #[.pointer (some ⟨gx, 0, none⟩)] w fun e w' => ∃ L : Nat, L ≤ 3200000 ∧ Bits x.natAbs L ∧ e = .returned (.int .i64 L) ∧ w = w' := by
  obtain ⟨s, A, n, c, f, hg, h1, h2, hd, hs, ht, hz1, rfl⟩ := hx
  rw [sg_abs]
  have hn := h2.2
  have c1 : w.cell? ⟨gx, 1, none⟩ = some (.slice A n c) := hg.cell (by decide)
  go_enter Try.func78, Try.ntmps78
  go_wp2
  go_loop [3] (fun i => ∃ k : Nat, i = .int .i64 k ∧ k ≤ 32 * n ∧ val n f < 2 ^ k) (fun i => (intOf i).toNat)
  case atStart => exact ⟨32 * n, by go_num, Nat.le_refl _, by rw [pow_32]; exact val_lt hs⟩
  case round =>
    obtain ⟨k, rfl, hk, hlt⟩ := hrel
    by_cases h0 : k = 0
    · subst h0
      go_wp2
      go_ret
      exact ⟨0, by omega, ⟨hlt, fun h => by omega⟩, rfl, rfl⟩
    · obtain ⟨j, rfl⟩ : ∃ j, k = j + 1 := ⟨k - 1, by omega⟩
      obtain ⟨q, r, hr, rfl⟩ : ∃ q r : Nat, r < 32 ∧ j = 32 * q + r := ⟨j / 32, j % 32, by omega, by omega⟩
      have hqn : q < n := by omega
      obtain ⟨b, rfl⟩ := hd.addr (by omega)
      have hxc := (hd.cell (j := q) hqn).1
      have hxs := hs q hqn
      have hb := bit_of hs hqn hr
      have HL := Lib.hid hlt
      have HB := Lib.hid hb
      clear hlt hb
      have e1 : (32 * q + r) / 32 = q := by omega
      have e2 : (32 * (q : Int) + (r : Int)) / 32 = (q : Int) := by omega
      have e3 : (32 * (q : Int) + (r : Int)) % 32 = (r : Int) := by omega
      have hd2 : f q / 2 ^ r ≤ f q := Nat.div_le_self _ _
      have ed : (f q : Int) / 2 ^ r = ((f q / 2 ^ r : Nat) : Int) := by push_cast; rfl
      obtain ⟨D, hD⟩ : ∃ D, f q / 2 ^ r = D := ⟨_, rfl⟩
      rw [hD] at ed hd2
      have HD := Lib.hid hD
      clear hD
      rcases Nat.mod_two_eq_zero_or_one D with hm | hm
      · have ea : bits .and .u32 (D : Int) 1 = 0 := by
          rw [and_one_u32 (by omega)]
          omega
        go_wp2_with fail
        go_round
        case rel => exact ⟨32 * q + r, by go_num, by omega, top_off HL.out (by rw [HB.out, HD.out]; exact hm)⟩
        case measure => simp [intOf]; omega
      · have ea : bits .and .u32 (D : Int) 1 = 1 := by
          rw [and_one_u32 (by omega)]
          omega
        go_wp2_with fail
        go_ret
        exact ⟨32 * q + r + 1, by omega, ⟨HL.out, fun _ => top_on (by rw [Nat.add_sub_cancel, HB.out, HD.out]; omega)⟩, rfl, rfl⟩

theorem isInt64_yes (gx : Nat) (x : Int) (w : World) (hx : IntAt w gx x) (h : x.natAbs < 9223372036854775808) :
    Calls Try.prog 72 #[.pointer (some ⟨gx, 0, none⟩)] w fun e w' => e = .returned (.bool true) ∧ w = w' := by
  go_enter Try.func72, Try.ntmps72
  go_wp2_with fail
  refine (bitLen_any gx x w hx).mono ?_
  rintro e w1 ⟨L, hL, hB, rfl, hw⟩
  subst hw
  have h64 : L < 64 := by
    rcases Nat.lt_or_ge L 64 with c | c
    · exact c
    · have g := hB.ge (by omega)
      have := Nat.pow_le_pow_right (show 0 < 2 by decide) (show 63 ≤ L - 1 by omega)
      omega
  have hi : (L : Int) < 64 := by omega
  clear hB h64
  go_wp2
  go_ret
  exact ⟨rfl, rfl⟩

theorem int64_any (gx : Nat) (x : Int) (w : World) (hx : IntAt w gx x) (h : x.natAbs < 9223372036854775808) :
    Calls Try.prog 48 #[.pointer (some ⟨gx, 0, none⟩)] w fun e w' => e = .returned (.int .i64 x) ∧ w = w' := by
  obtain ⟨s, A, n, c, f, hg, h1, h2, hd, hs, ht, hz1, rfl⟩ := hx
  rw [sg_abs] at h
  have c0 : w.cell? ⟨gx, 0, none⟩ = some (.bool s) := hg.cell (by decide)
  have hu := uint64_sgn gx s A n c f w hg hd hs (len_le (k := 2) ht (by omega))
  obtain ⟨X, hX⟩ : ∃ X, val n f = X := ⟨_, rfl⟩
  rw [hX] at hu h ⊢
  clear hX
  have hi : (X : Int) < 9223372036854775808 := by omega
  cases s
  · go_enter Try.func48, Try.ntmps48
    go_wp2_with fail
    refine hu.mono ?_
    rintro e w1 ⟨rfl, hw⟩
    subst hw
    go_wp2
    go_ret
    exact ⟨rfl, rfl⟩
  · go_enter Try.func48, Try.ntmps48
    go_wp2_with fail
    refine hu.mono ?_
    rintro e w1 ⟨rfl, hw⟩
    subst hw
    go_wp2
    go_ret
    exact ⟨rfl, rfl⟩

theorem bright_any (n d : Int) (w : World) :
    Calls Try.prog 34 #[.agg #[.int .i64 n, .int .i64 d]] w fun e w' => e = .returned (.bool (decide (FOk n d))) ∧ Below w.heap.size w w' := by
  go_enter Try.func34, Try.ntmps34
  go_wp2
  all_goals (go_ret; refine ⟨?_, (Below.refl _ _).alloc (Nat.le_refl _) _⟩; simp only [fok_iff]; first | (simp; omega) | (rename_i h1 h2 h3; simp [h2, h3]; omega))
end Go.Proofs.Ytfopcipapphogaa
