/- Contracts of package wide: Sat, Gcd, Lcm and Div, for every argument. -/
import Derived.Test.YtopjhemahokmeaaWide
namespace Go.Proofs.Ytopjhemahokmeaa
open Go.RowKit

def tH (ah al bh bl : Int) : Int := if sC ah al bh bl = true then 18446744073709551615 else sH ah al bh bl
def tL (ah al bh bl : Int) : Int := if sC ah al bh bl = true then 18446744073709551615 else sL al bl

theorem below_of {B : Nat} {w W w1 : World} (h0 : Below B w W) (hb : Below W.heap.size W w1) (hB : B ≤ W.heap.size) : Below B w w1 := h0.trans (hb.mono hB)

theorem sat_any (ah al bh bl : Int) (h1 : Word ah) (h2 : Word al) (h3 : Word bh) (h4 : Word bl) (w : World) :
    Calls Try.prog 17 #[.agg #[.int .u64 ah, .int .u64 al], .agg #[.int .u64 bh, .int .u64 bl]] w fun e w' =>
      e = .returned (.agg #[.int .u64 (tH ah al bh bl), .int .u64 (tL ah al bh bl)]) ∧ Below w.heap.size w w' := by
  unfold tH tL
  cases hc : sC ah al bh bl
  all_goals
    have HC := Lib.hid hc
    clear hc
    go_enter Try.func17, Try.ntmps17
    go_wp2_with fail
    refine (add_any ah al bh bl h1 h2 h3 h4 _).mono ?_
    rintro e w1 ⟨rfl, hb⟩
    rw [HC.out]
    obtain ⟨c1, c2⟩ := bcell hb
    have hz : w.heap.size + 1 + 1 < w1.heap.size := by have := hb.size; simp at this; omega
    go_wp2
  · refine bodyPost_ret (v := .agg #[.int .u64 (sH ah al bh bl), .int .u64 (sL al bl)]) (by simp [results, Try.results17, go_sem, c1, hz]) rfl ⟨by simp, ?_⟩
    have h3 := below_of ((((Below.refl w.heap.size w).alloc (Nat.le_refl _) _).alloc (by simp) _).alloc (by simp; omega) _) hb (by simp; omega)
    exact ((h3.setCell (by simp; omega) _).setCell (by simp; omega) _).alloc (by simp [World.setCell]; omega) _
  · refine bodyPost_ret (v := .agg #[.int .u64 18446744073709551615, .int .u64 18446744073709551615]) (by simp [results, Try.results17, go_sem, c1, hz]) rfl ⟨by simp, ?_⟩
    have h3 := below_of ((((Below.refl w.heap.size w).alloc (Nat.le_refl _) _).alloc (by simp) _).alloc (by simp; omega) _) hb (by simp; omega)
    exact ((h3.setCell (by simp; omega) _).setCell (by simp; omega) _).alloc (by simp [World.setCell]; omega) _

theorem ret_int {k : IntKind} {a b : Int} (h : a = b) : Ending.returned (.int k a) = .returned (.int k b) := by rw [h]
theorem gcd_step (x y : Nat) : Nat.gcd y (x % y) = Nat.gcd x y := by rw [Nat.gcd_comm y, ← Nat.gcd_rec, Nat.gcd_comm]

set_option maxHeartbeats 1000000 in
theorem gcd_nat (a b : Nat) (ha : a < 18446744073709551616) (hb : b < 18446744073709551616) (w : World) :
    Calls Try.prog 23 #[.int .u64 a, .int .u64 b] w fun e w' => e = .returned (.int .u64 (Nat.gcd a b : Nat)) ∧ ∃ n, w' = w.drewN n := by
  go_enter Try.func23, Try.ntmps23
  go_wp2
  go_loopw [0, 1] (fun x y wr => ∃ m n k : Nat, x = .int .u64 m ∧ y = .int .u64 n ∧ m < 18446744073709551616 ∧ n < 18446744073709551616 ∧ Nat.gcd m n = Nat.gcd a b ∧ wr = w.drewN k) (fun _ y _ => (intOf y).toNat)
  case atStart => exact ⟨a, b, 0, rfl, rfl, ha, hb, rfl, rfl⟩
  case round =>
    obtain ⟨m, n, k, rfl, rfl, hm, hn, hg, rfl⟩ := hrel
    have HG := Lib.hid hg
    clear hg
    by_cases h0 : n = 0
    · subst h0
      go_wp2
      go_ret
      exact ⟨ret_int (by rw [← HG.out, Nat.gcd_zero_right]), _, rfl⟩
    · have h1 : ((n : Int) != 0) = true := by simp; omega
      have h2 : ((n : Int) == 0) = false := by simp; omega
      have h3 : 0 < n := by omega
      have h4 : m % n < n := Nat.mod_lt _ h3
      go_wp2
      go_quiet (fail)
      go_wp2
      go_roundw
      case rel => exact ⟨n, m % n, _, rfl, by go_num, hn, by omega, by rw [gcd_step]; exact HG.out, by rw [World.drewN_drewN]⟩
      case measure => simp [intOf]; omega

def gI (a b : Int) : Int := ((Nat.gcd a.toNat b.toNat : Nat) : Int)
theorem gI_word {a b : Int} (ha : Word a) (hb : Word b) : Word (gI a b) := by
  obtain ⟨a0, a1⟩ := ha; obtain ⟨b0, b1⟩ := hb
  unfold gI
  refine ⟨by omega, ?_⟩
  rcases Nat.eq_zero_or_pos a.toNat with h | h
  · rw [h, Nat.gcd_zero_left]; omega
  · have := Nat.gcd_le_left b.toNat h; omega
theorem gI_pos {a b : Int} (h : 0 < a ∨ 0 < b) : 0 < gI a b := by
  unfold gI
  rcases h with h | h
  · have := Nat.gcd_pos_of_pos_left b.toNat (show 0 < a.toNat by omega); omega
  · have := Nat.gcd_pos_of_pos_right a.toNat (show 0 < b.toNat by omega); omega

theorem gcd_any (a b : Int) (ha : Word a) (hb : Word b) (w : World) :
    Calls Try.prog 23 #[.int .u64 a, .int .u64 b] w fun e w' => e = .returned (.int .u64 (gI a b)) ∧ ∃ n, w' = w.drewN n := by
  obtain ⟨a0, a1⟩ := ha; obtain ⟨b0, b1⟩ := hb
  obtain ⟨a, rfl⟩ := Int.eq_ofNat_of_zero_le a0
  obtain ⟨b, rfl⟩ := Int.eq_ofNat_of_zero_le b0
  exact gcd_nat a b (by omega) (by omega) w

/-- The product that Lcm tells. -/
def lP (a b : Int) : Int := a / gI a b * b
theorem lP_zero {a b : Int} (h : a = 0 ∨ b = 0) : lP a b = 0 := by
  unfold lP
  rcases h with rfl | rfl <;> simp
theorem quot_word {a g : Int} (ha : Word a) (hg : 0 < g) : Word (a / g) :=
  ⟨Int.ediv_nonneg ha.1 (by omega), Int.lt_of_le_of_lt (Int.ediv_le_self _ ha.1) ha.2⟩

theorem lcm_any (a b : Int) (ha : Word a) (hb : Word b) (w : World) :
    Calls Try.prog 25 #[.int .u64 a, .int .u64 b] w fun e w' =>
      e = .returned (.agg #[.int .u64 (lP a b / 18446744073709551616), .int .u64 (lP a b % 18446744073709551616)]) ∧ Below w.heap.size w w' := by
  by_cases h : a = 0 ∨ b = 0
  · rw [lP_zero h]
    rcases h with rfl | rfl
    · go_enter Try.func25, Try.ntmps25
      go_wp2
      exact bodyPost_ret (v := .agg #[.int .u64 0, .int .u64 0]) (by simp [results, Try.results25, go_sem]) rfl ⟨rfl, (Below.refl _ _).alloc (Nat.le_refl _) _⟩
    · by_cases h0 : a = 0
      · subst h0
        go_enter Try.func25, Try.ntmps25
        go_wp2
        exact bodyPost_ret (v := .agg #[.int .u64 0, .int .u64 0]) (by simp [results, Try.results25, go_sem]) rfl ⟨rfl, (Below.refl _ _).alloc (Nat.le_refl _) _⟩
      · have h1 : (a == 0) = false := by simp [h0]
        go_enter Try.func25, Try.ntmps25
        go_wp2
        exact bodyPost_ret (v := .agg #[.int .u64 0, .int .u64 0]) (by simp [results, Try.results25, go_sem]) rfl ⟨rfl, (Below.refl _ _).alloc (Nat.le_refl _) _⟩
  · have h1 : (a == 0) = false := by simp; omega
    have h2 : (b == 0) = false := by simp; omega
    have a0 := ha.1
    have a1 := ha.2
    have hg := gI_pos (a := a) (b := b) (.inl (by omega))
    have gw := gI_word ha hb
    have g1 := gw.2
    have h3 : (gI a b == 0) = false := by simp; omega
    unfold lP
    go_enter Try.func25, Try.ntmps25
    go_wp2_with fail
    refine (gcd_any a b ha hb _).mono ?_
    rintro e w1 ⟨rfl, n, rfl⟩
    go_wp2_with fail
    refine (mul_any (a / gI a b) b (quot_word ha hg) hb _).mono ?_
    rintro e w1 ⟨rfl, hw⟩
    obtain ⟨c1, c2⟩ := bcell hw
    have hz : w.heap.size < w1.heap.size := by have := hw.size; simp at this; omega
    go_wp2
    refine bodyPost_ret (v := .agg #[.int .u64 (a / gI a b * b / 18446744073709551616), .int .u64 (a / gI a b * b % 18446744073709551616)]) (by simp [results, Try.results25, go_sem, c1]) rfl ⟨rfl, ?_⟩
    have h3 := below_of (below_drewN ((Below.refl w.heap.size w).alloc (Nat.le_refl _) _) n) hw (by simp)
    exact (h3.setCell (by simp) _).setCell (by simp) _

theorem div_zero (ah al : Int) (w : World) :
    Calls Try.prog 26 #[.agg #[.int .u64 ah, .int .u64 al], .int .u64 0] w fun e w' =>
      e = .returned (.tuple #[.agg #[.int .u64 0, .int .u64 0], .int .u64 0, .int .i64 2]) ∧ Below w.heap.size w w' := by
  go_enter Try.func26, Try.ntmps26
  go_wp2
  exact bodyPost_ret (v := .tuple #[.agg #[.int .u64 0, .int .u64 0], .int .u64 0, .int .i64 2]) (by simp [results, Try.results26, go_sem]) rfl ⟨rfl, ((Below.refl _ _).alloc (Nat.le_refl _) _).alloc (by simp) _⟩

def qL (ah al b : Int) : Int := (ah % b * 18446744073709551616 + al) / b
def qR (ah al b : Int) : Int := (ah % b * 18446744073709551616 + al) % b

theorem div_any (ah al b : Int) (h1 : Word ah) (h2 : Word al) (hb : Word b) (h0 : 0 < b) (w : World) :
    Calls Try.prog 26 #[.agg #[.int .u64 ah, .int .u64 al], .int .u64 b] w fun e w' =>
      e = .returned (.tuple #[.agg #[.int .u64 (ah / b), .int .u64 (qL ah al b)], .int .u64 (qR ah al b), .int .i64 0]) ∧ Below w.heap.size w w' := by
  unfold qL qR
  have e0 : (b == 0) = false := by simp; omega
  have a0 := h1.1
  have a1 := h1.2
  have b1 := hb.2
  have m0 := Int.emod_nonneg ah (show b ≠ 0 by omega)
  have m1 := Int.emod_lt_of_pos ah h0
  go_enter Try.func26, Try.ntmps26
  go_wp2
  go_quiet (fail)
  go_wp2_with fail
  refine (div64 (ah % b) al b ⟨m0, by omega⟩ h2 hb m1 _).mono ?_
  rintro e w1 ⟨rfl, n, rfl⟩
  go_wp2
  refine bodyPost_ret (v := .tuple #[.agg #[.int .u64 (ah / b), .int .u64 ((ah % b * 18446744073709551616 + al) / b)], .int .u64 ((ah % b * 18446744073709551616 + al) % b), .int .i64 0]) (by simp [results, Try.results26, go_sem]) rfl ⟨rfl, ?_⟩
  exact ((below_drewN (((Below.refl _ _).alloc (Nat.le_refl _) _).alloc (by simp) _) _).setCell (by simp) _).setCell (by simp) _

end Go.Proofs.Ytopjhemahokmeaa
