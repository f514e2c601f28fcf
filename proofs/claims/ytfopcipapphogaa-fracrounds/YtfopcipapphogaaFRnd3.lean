/- FracRounds of package weirhouselaw: the numbers behind its walks. -/
import Derived.Test.YtfopcipapphogaaFRnd2
namespace Go.Proofs.Ytfopcipapphogaa
open Go.RowKit

namespace FR
theorem root_le {n m r s : Nat} (h : RootIs n r) (k : RootIs m s) (l : n ≤ m) : r ≤ s := by
  rcases Nat.lt_or_ge s r with c | c
  · have := Nat.mul_le_mul (show s + 1 ≤ r from c) (show s + 1 ≤ r from c)
    have := h.lo
    have := k.hi
    omega
  · exact c
theorem root_eq {n r s : Nat} (h : RootIs n r) (k : RootIs n s) : r = s := Nat.le_antisymm (root_le h k (Nat.le_refl _)) (root_le k h (Nat.le_refl _))
theorem root_some (n : Nat) : ∃ r : Nat, r * r ≤ n ∧ n < (r + 1) * (r + 1) := by
  induction n with
  | zero => exact ⟨0, by simp, by simp⟩
  | succ n ih =>
    obtain ⟨r, h1, h2⟩ := ih
    rcases Nat.lt_or_ge (n + 1) ((r + 1) * (r + 1)) with c | c
    · exact ⟨r, by omega, c⟩
    · refine ⟨r + 1, c, ?_⟩
      have : (r + 1 + 1) * (r + 1 + 1) = (r + 1) * (r + 1) + 2 * r + 3 := by
        simp only [Nat.add_mul, Nat.mul_add]
        omega
      omega
theorem root_is {n : Nat} (hn : n < 18446744073709551616) : ∃ r, RootIs n r := by
  obtain ⟨r, h1, h2⟩ := root_some n
  refine ⟨r, h1, h2, ?_⟩
  rcases Nat.lt_or_ge r 4294967296 with c | c
  · exact c
  · have := Nat.mul_le_mul c c
    omega
theorem root {n r : Nat} (hn : n < 18446744073709551616) (h : RootIs n r) (w : World) : Calls Try.prog 43 #[.int .u64 n] w fun e w' => e = .returned (.int .u64 r) ∧ w = w' :=
  (root_any n hn w).mono fun _ _ ⟨_, hs, he, hw⟩ => ⟨by rw [he, root_eq hs h], hw⟩
theorem sqrt {n r : Nat} (hn : n < 18446744073709551616) (h : RootIs n r) (gz gx : Nat) (w : World) (hz : Room w gz) (hx : IntAt w gx n) :
    Calls Try.prog 44 #[.pointer (some ⟨gz, 0, none⟩), .pointer (some ⟨gx, 0, none⟩)] w fun e w' => e = .returned (.pointer (some ⟨gz, 0, none⟩)) ∧ w.grownBy w' (some gz) ∧ IntAt w' gz r :=
  (sqrt_any gz gx n w hz hx hn).mono fun _ _ ⟨he, hg, _, hs, hi⟩ => ⟨he, hg, root_eq hs h ▸ hi⟩
theorem u64 {r : Nat} (hr : r < 18446744073709551616) (g : Nat) (w : World) (hi : IntAt w g r) :
    Calls Try.prog 26 #[.pointer (some ⟨g, 0, none⟩)] w fun e w' => e = .returned (.int .u64 r) ∧ w = w' := by
  have := uint64_int g r w hi
  rwa [show r % 18446744073709551616 = r by omega] at this
theorem div {x y q : Int} (hx : x.natAbs < 18446744073709551616) (hy : 0 < y) (hyl : y < 18446744073709551616) (hq : x / y = q) (gz gx gy : Nat) (w : World) (hz : Room w gz) (hx' : IntAt w gx x) (hy' : IntAt w gy y) :
    Calls Try.prog 23 #[.pointer (some ⟨gz, 0, none⟩), .pointer (some ⟨gx, 0, none⟩), .pointer (some ⟨gy, 0, none⟩)] w fun e w' => e = .returned (.pointer (some ⟨gz, 0, none⟩)) ∧ w.grownBy w' (some gz) ∧ IntAt w' gz q := by
  obtain ⟨y, rfl⟩ := Int.eq_ofNat_of_zero_le (show 0 ≤ y by omega)
  exact hq ▸ div_int gz gx gy x y w hz hx' hy' (by omega) (.inl hx) (Fits.of (k := 2) (by omega) (by decide))
theorem low_abs {a b : Int} (hb : 0 < b) : (lN a b).natAbs ≤ a.natAbs ∧ (lD a b).natAbs ≤ b.natAbs := by
  have h1 := lN_abs (n := a) (d := b) (B := a.natAbs) hb (by omega) (by omega)
  have h2 := lD_le (n := a) hb
  have h3 := lD_pos (n := a) hb
  omega
theorem quot_low {n d : Int} (hd : 0 < d) : lN n d / lD n d = n / d := by
  have e1 := lN_mul n d
  have e2 := lD_mul n d
  have g := gF_pos (n := n) hd
  have h : (lN n d * gF n d) / (lD n d * gF n d) = lN n d / lD n d := Int.mul_ediv_mul_of_pos_left _ _ g
  rw [e1, e2] at h
  exact h.symm
theorem quot_low_neg {n d : Int} (hd : 0 < d) : (-lN n d) / lD n d = (-n) / d := by
  have e1 := lN_mul n d
  have e2 := lD_mul n d
  have g := gF_pos (n := n) hd
  have h : (-lN n d * gF n d) / (lD n d * gF n d) = (-lN n d) / lD n d := Int.mul_ediv_mul_of_pos_left _ _ g
  rw [Int.neg_mul, e1, e2] at h
  exact h.symm
end FR

theorem frnd_all (an ad n : Int) (hn : Word n) (w : World) :
    Calls Try.prog 6 #[.agg #[.int .i64 an, .int .i64 ad], .int .u64 n] w fun e w' => e = .returned (.bool true) ∧ Below w.heap.size w w' := by
  obtain ⟨n0, n1⟩ := hn
  obtain ⟨n, rfl⟩ := Int.eq_ofNat_of_zero_le n0
  have hn : n < 18446744073709551616 := by omega
  obtain ⟨r, hr⟩ := FR.root_is hn
  have rw64 : r < 18446744073709551616 := by have := hr.w; omega
  by_cases h1 : FOk an ad
  · have hd : 0 < ad := h1.d0
    have hs : 0 < lD an ad ∧ (lN an ad).natAbs ≤ 1073741824 ∧ (lD an ad).natAbs ≤ 1073741824 := by
      obtain ⟨d0, d1, m0, m1⟩ := id h1
      have l := FR.low_abs (a := an) (b := ad) d0
      exact ⟨lD_pos d0, by omega, by omega⟩
    obtain ⟨p, q1, q2⟩ := hs
    have ok : FOk (lN an ad) (lD an ad) := ⟨by omega, by omega, by omega, by omega⟩
    have b1 := ediv_bound h1
    have b2 := ediv_bound (show FOk (-an) ad from ⟨h1.d0, h1.d1, by have := h1.n1; omega, by have := h1.n0; omega⟩)
    exact frnd_yes an ad n r _ _ _ _ _ _ _ ((-an) / ad) h1 p (FR.root hn hr) (fun w => aof_any n w hn) (FR.sqrt hn hr) (FR.u64 rw64) (low_yes an ad h1) (floorF_yes an ad h1) (ceilF_yes an ad h1)
      (brat_any an ad h1) (fun g w Q => bfrac_yes g _ _ w Q p (by omega) (by omega) ok) (FR.div (by omega) p (by omega) (FR.quot_low hd)) (FR.div (by omega) p (by omega) (FR.quot_low_neg hd))
      (fun g w hi => int64_any g _ w hi (by omega)) (fun g w hi => int64_any g _ w hi (by omega)) w
  · exact frnd_no an ad n r h1 (FR.root hn hr) (fun w => aof_any n w hn) (FR.sqrt hn hr) (FR.u64 rw64) w
end Go.Proofs.Ytfopcipapphogaa
