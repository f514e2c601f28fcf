/- Contracts of package wide: Sat, Gcd, Lcm and Div, for every argument. -/
import Derived.Test.YtfopcipapphogaaWide
namespace Go.Proofs.Ytfopcipapphogaa
open Go.RowKit

def tH (ah al bh bl : Int) : Int := if sC ah al bh bl = true then 18446744073709551615 else sH ah al bh bl
def tL (ah al bh bl : Int) : Int := if sC ah al bh bl = true then 18446744073709551615 else sL al bl

theorem sat_any (ah al bh bl : Int) (h1 : Word ah) (h2 : Word al) (h3 : Word bh) (h4 : Word bl) (w : World) :
    Calls Try.prog 19 #[.agg #[.int .u64 ah, .int .u64 al], .agg #[.int .u64 bh, .int .u64 bl]] w fun e w' =>
      e = .returned (.agg #[.int .u64 (tH ah al bh bl), .int .u64 (tL ah al bh bl)]) ∧ Below w.heap.size w w' := by
  unfold tH tL
  cases hc : sC ah al bh bl
  all_goals
    have HC := Lib.hid hc
    clear hc
    go_enter Try.func19, Try.ntmps19
    go_wp2_with fail
    refine (add_any ah al bh bl h1 h2 h3 h4 _).mono ?_
    rintro e w1 ⟨rfl, hb⟩
    rw [HC.out]
    obtain ⟨c1, c2⟩ := bcell hb
    have hz : w.heap.size + 1 + 1 < w1.heap.size := by have := hb.size; simp at this; omega
    go_wp2
  · refine bodyPost_ret (v := .agg #[.int .u64 (sH ah al bh bl), .int .u64 (sL al bl)]) (by simp [results, Try.results19, go_sem, c1, hz]) rfl ⟨by simp, ?_⟩
    have h3 := below_of ((((Below.refl w.heap.size w).alloc (Nat.le_refl _) _).alloc (by simp) _).alloc (by simp; omega) _) hb (by simp; omega)
    exact ((h3.setCell (by simp; omega) _).setCell (by simp; omega) _).alloc (by simp [World.setCell]; omega) _
  · refine bodyPost_ret (v := .agg #[.int .u64 18446744073709551615, .int .u64 18446744073709551615]) (by simp [results, Try.results19, go_sem, c1, hz]) rfl ⟨by simp, ?_⟩
    have h3 := below_of ((((Below.refl w.heap.size w).alloc (Nat.le_refl _) _).alloc (by simp) _).alloc (by simp; omega) _) hb (by simp; omega)
    exact ((h3.setCell (by simp; omega) _).setCell (by simp; omega) _).alloc (by simp [World.setCell]; omega) _

/-- The product that Lcm tells. -/
def lP (a b : Int) : Int := a / gI a b * b
theorem lP_zero {a b : Int} (h : a = 0 ∨ b = 0) : lP a b = 0 := by
  unfold lP
  rcases h with rfl | rfl <;> simp
theorem quot_word {a g : Int} (ha : Word a) (hg : 0 < g) : Word (a / g) :=
  ⟨Int.ediv_nonneg ha.1 (by omega), Int.lt_of_le_of_lt (Int.ediv_le_self _ ha.1) ha.2⟩

theorem lcm_any (a b : Int) (ha : Word a) (hb : Word b) (w : World) :
    Calls Try.prog 27 #[.int .u64 a, .int .u64 b] w fun e w' =>
      e = .returned (.agg #[.int .u64 (lP a b / 18446744073709551616), .int .u64 (lP a b % 18446744073709551616)]) ∧ Below w.heap.size w w' := by
  by_cases h : a = 0 ∨ b = 0
  · rw [lP_zero h]
    rcases h with rfl | rfl
    · go_enter Try.func27, Try.ntmps27
      go_wp2
      exact bodyPost_ret (v := .agg #[.int .u64 0, .int .u64 0]) (by simp [results, Try.results27, go_sem]) rfl ⟨rfl, (Below.refl _ _).alloc (Nat.le_refl _) _⟩
    · by_cases h0 : a = 0
      · subst h0
        go_enter Try.func27, Try.ntmps27
        go_wp2
        exact bodyPost_ret (v := .agg #[.int .u64 0, .int .u64 0]) (by simp [results, Try.results27, go_sem]) rfl ⟨rfl, (Below.refl _ _).alloc (Nat.le_refl _) _⟩
      · have h1 : (a == 0) = false := by simp [h0]
        go_enter Try.func27, Try.ntmps27
        go_wp2
        exact bodyPost_ret (v := .agg #[.int .u64 0, .int .u64 0]) (by simp [results, Try.results27, go_sem]) rfl ⟨rfl, (Below.refl _ _).alloc (Nat.le_refl _) _⟩
  · have h1 : (a == 0) = false := by simp; omega
    have h2 : (b == 0) = false := by simp; omega
    have a0 := ha.1
    have a1 := ha.2
    have hg := gI_pos (a := a) (b := b) (.inl (by omega))
    have gw := gI_word ha hb
    have g1 := gw.2
    have h3 : (gI a b == 0) = false := by simp; omega
    unfold lP
    go_enter Try.func27, Try.ntmps27
    go_wp2_with fail
    refine (gcd_any a b ha hb _).mono ?_
    rintro e w1 ⟨rfl, n, rfl⟩
    go_wp2_with fail
    refine (mul_any (a / gI a b) b (quot_word ha hg) hb _).mono ?_
    rintro e w1 ⟨rfl, hw⟩
    obtain ⟨c1, c2⟩ := bcell hw
    have hz : w.heap.size < w1.heap.size := by have := hw.size; simp at this; omega
    go_wp2
    refine bodyPost_ret (v := .agg #[.int .u64 (a / gI a b * b / 18446744073709551616), .int .u64 (a / gI a b * b % 18446744073709551616)]) (by simp [results, Try.results27, go_sem, c1]) rfl ⟨rfl, ?_⟩
    have h3 := below_of (below_drewN ((Below.refl w.heap.size w).alloc (Nat.le_refl _) _) n) hw (by simp)
    exact (h3.setCell (by simp) _).setCell (by simp) _

theorem div_zero (ah al : Int) (w : World) :
    Calls Try.prog 28 #[.agg #[.int .u64 ah, .int .u64 al], .int .u64 0] w fun e w' =>
      e = .returned (.tuple #[.agg #[.int .u64 0, .int .u64 0], .int .u64 0, .int .i64 2]) ∧ Below w.heap.size w w' := by
  go_enter Try.func28, Try.ntmps28
  go_wp2
  exact bodyPost_ret (v := .tuple #[.agg #[.int .u64 0, .int .u64 0], .int .u64 0, .int .i64 2]) (by simp [results, Try.results28, go_sem]) rfl ⟨rfl, ((Below.refl _ _).alloc (Nat.le_refl _) _).alloc (by simp) _⟩

def qL (ah al b : Int) : Int := (ah % b * 18446744073709551616 + al) / b
def qR (ah al b : Int) : Int := (ah % b * 18446744073709551616 + al) % b

theorem div_any (ah al b : Int) (h1 : Word ah) (h2 : Word al) (hb : Word b) (h0 : 0 < b) (w : World) :
    Calls Try.prog 28 #[.agg #[.int .u64 ah, .int .u64 al], .int .u64 b] w fun e w' =>
      e = .returned (.tuple #[.agg #[.int .u64 (ah / b), .int .u64 (qL ah al b)], .int .u64 (qR ah al b), .int .i64 0]) ∧ Below w.heap.size w w' := by
  unfold qL qR
  have e0 : (b == 0) = false := by simp; omega
  have a0 := h1.1
  have a1 := h1.2
  have b1 := hb.2
  have m0 := Int.emod_nonneg ah (show b ≠ 0 by omega)
  have m1 := Int.emod_lt_of_pos ah h0
  go_enter Try.func28, Try.ntmps28
  go_wp2
  go_quiet (fail)
  go_wp2_with fail
  refine (div64 (ah % b) al b ⟨m0, by omega⟩ h2 hb m1 _).mono ?_
  rintro e w1 ⟨rfl, n, rfl⟩
  go_wp2
  refine bodyPost_ret (v := .tuple #[.agg #[.int .u64 (ah / b), .int .u64 ((ah % b * 18446744073709551616 + al) / b)], .int .u64 ((ah % b * 18446744073709551616 + al) % b), .int .i64 0]) (by simp [results, Try.results28, go_sem]) rfl ⟨rfl, ?_⟩
  exact ((below_drewN (((Below.refl _ _).alloc (Nat.le_refl _) _).alloc (by simp) _) _).setCell (by simp) _).setCell (by simp) _

end Go.Proofs.Ytfopcipapphogaa
