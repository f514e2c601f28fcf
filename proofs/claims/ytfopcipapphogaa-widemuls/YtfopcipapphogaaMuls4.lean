/- WideMuls of package weirhouselaw: the numbers behind its walks. -/
import Derived.Test.YtfopcipapphogaaMuls2
import Derived.Test.YtfopcipapphogaaMuls3
namespace Go.Proofs.Ytfopcipapphogaa
open Go.RowKit

namespace Muls
theorem hi_eq {P : Int} (h0 : 0 ≤ P) (h1 : P < 340282366920938463463374607431768211456) : ((m128 P / 18446744073709551616 : Nat) : Int) = P / 18446744073709551616 := by
  unfold m128; omega
theorem lo_eq {P : Int} (_h0 : 0 ≤ P) (_h1 : P < 340282366920938463463374607431768211456) : ((m128 P % 18446744073709551616 : Nat) : Int) = P % 18446744073709551616 := by
  unfold m128; omega
theorem aof {b : Int} (h : Word b) (w : World) : Calls Try.prog 21 #[.int .u64 b] w (NewInt w b) := by
  obtain ⟨h0, h1⟩ := h
  obtain ⟨b, rfl⟩ := Int.eq_ofNat_of_zero_le h0
  exact aof_any b w (by omega)
theorem abig {h l X : Int} (hh : Word h) (hl : Word l) (hX : h * 18446744073709551616 + l = X) (w : World) : Calls Try.prog 11 #[.agg #[.int .u64 h, .int .u64 l]] w (NewInt w X) := by
  obtain ⟨h0, h1⟩ := hh
  obtain ⟨l0, l1⟩ := hl
  obtain ⟨h, rfl⟩ := Int.eq_ofNat_of_zero_le h0
  obtain ⟨l, rfl⟩ := Int.eq_ofNat_of_zero_le l0
  have := abig_any h l w (by omega) (by omega)
  rwa [show (((h * 18446744073709551616 + l : Nat) : Nat) : Int) = X by omega] at this
theorem awide {P h l : Int} (h0 : 0 ≤ P) (h1 : P < 340282366920938463463374607431768211456) (hh : P / 18446744073709551616 = h) (hl : P % 18446744073709551616 = l) (g : Nat) (w : World) (hi : IntAt w g P) :
    Calls Try.prog 14 #[.pointer (some ⟨g, 0, none⟩)] w fun e w' => e = .returned (.tuple #[.agg #[.int .u64 h, .int .u64 l], .bool (cmpI (m128 P) P != 0)]) ∧ Below w.heap.size w w' := by
  have := awide_any g P w hi (by omega)
  rwa [hi_eq h0 h1, lo_eq h0 h1, hh, hl] at this
theorem u64 {z : Int} (h : Word z) (g : Nat) (w : World) (hi : IntAt w g z) :
    Calls Try.prog 26 #[.pointer (some ⟨g, 0, none⟩)] w fun e w' => e = .returned (.int .u64 z) ∧ w = w' := by
  obtain ⟨h0, h1⟩ := h
  obtain ⟨z, rfl⟩ := Int.eq_ofNat_of_zero_le h0
  have := uint64_int g z w hi
  rwa [show z % 18446744073709551616 = z by omega] at this
theorem div {X G L : Int} (hX : 0 ≤ X) (hG : 0 < G) (hGl : G < 18446744073709551616) (hL : X / G = L) (gz gx gy : Nat) (w : World) (hz : Room w gz) (hx : IntAt w gx X) (hy : IntAt w gy G) :
    Calls Try.prog 23 #[.pointer (some ⟨gz, 0, none⟩), .pointer (some ⟨gx, 0, none⟩), .pointer (some ⟨gy, 0, none⟩)] w fun e w' => e = .returned (.pointer (some ⟨gz, 0, none⟩)) ∧ w.grownBy w' (some gz) ∧ IntAt w' gz L := by
  obtain ⟨G, rfl⟩ := Int.eq_ofNat_of_zero_le (show 0 ≤ G by omega)
  exact hL ▸ div_int gz gx gy X G w hz hx hy (by omega) (.inr hX) (Fits.of (k := 2) (by omega) (by decide))
theorem divmod {X G q r : Int} (hX : 0 ≤ X) (hG : 0 < G) (hGl : G < 18446744073709551616) (hq : X / G = q) (hr : X % G = r) (gz gx gy gm : Nat) (w : World) (hz : Room w gz) (hm : Room w gm) (hx : IntAt w gx X) (hy : IntAt w gy G) (n1 : gx ≠ gm) (n2 : gz ≠ gm) :
    Calls Try.prog 29 #[.pointer (some ⟨gz, 0, none⟩), .pointer (some ⟨gx, 0, none⟩), .pointer (some ⟨gy, 0, none⟩), .pointer (some ⟨gm, 0, none⟩)] w fun e w' =>
      e = .returned (.tuple #[.pointer (some ⟨gz, 0, none⟩), .pointer (some ⟨gm, 0, none⟩)]) ∧ Kept2 w w' gz gm ∧ IntAt w' gz q ∧ IntAt w' gm r := by
  obtain ⟨G, rfl⟩ := Int.eq_ofNat_of_zero_le (show 0 ≤ G by omega)
  subst hq hr
  exact divmod_int gz gx gy gm X G w hz hm hx hy n1 n2 (by omega) (.inr hX) (Fits.of (k := 2) (by omega) (by decide))
theorem gI_eq {b c : Int} (hb : 0 ≤ b) (hc : 0 ≤ c) : ((Nat.gcd b.natAbs c.natAbs : Nat) : Int) = gI b c := by
  unfold gI
  rw [show b.natAbs = b.toNat by omega, show c.natAbs = c.toNat by omega]
theorem prod {b c : Int} (hb : Word b) (hc : Word c) : 0 ≤ b * c ∧ b * c < 340282366920938463463374607431768211456 := by
  obtain ⟨b0, b1⟩ := hb; obtain ⟨c0, c1⟩ := hc
  have h1 := Int.mul_nonneg b0 c0
  have h2 := Int.mul_le_mul (show b ≤ 18446744073709551615 by omega) (show c ≤ 18446744073709551615 by omega) c0 (by omega)
  omega
theorem dvd_left {a b : Int} (ha : 0 ≤ a) : gI a b ∣ a := by
  unfold gI
  have h := Int.natCast_dvd_natCast.2 (Nat.gcd_dvd_left a.toNat b.toNat)
  rwa [Int.toNat_of_nonneg ha] at h
theorem lP_eq {a b : Int} (ha : 0 ≤ a) : a * b / gI a b = lP a b := by
  unfold lP
  rw [Int.mul_comm a b, Int.mul_ediv_assoc _ (dvd_left ha), Int.mul_comm]
theorem lP_bound {a b : Int} (ha : Word a) (hb : Word b) (h : 0 < a) : 0 ≤ lP a b ∧ lP a b < 340282366920938463463374607431768211456 := by
  have hg := gI_pos (a := a) (b := b) (.inl h)
  have p := prod ha hb
  rw [← lP_eq ha.1]
  exact ⟨Int.ediv_nonneg p.1 (by omega), Int.lt_of_le_of_lt (Int.ediv_le_self _ p.1) p.2⟩
theorem div_val {h l b : Int} (hl : Word l) (h0 : 0 < b) : (h * 18446744073709551616 + l) / b = h / b * 18446744073709551616 + qL h l b ∧ (h * 18446744073709551616 + l) % b = qR h l b ∧ 0 ≤ qL h l b ∧ qL h l b < 18446744073709551616 := by
  have e1 := Int.ediv_mul_add_emod h b
  have e2 := Int.ediv_mul_add_emod (h % b * 18446744073709551616 + l) b
  have m0 := Int.emod_nonneg h (show b ≠ 0 by omega)
  have m1 := Int.emod_lt_of_pos h h0
  have r0 := Int.emod_nonneg (h % b * 18446744073709551616 + l) (show b ≠ 0 by omega)
  have r1 := Int.emod_lt_of_pos (h % b * 18446744073709551616 + l) h0
  obtain ⟨_, _⟩ := hl
  have e : h * 18446744073709551616 + l = qR h l b + (h / b * 18446744073709551616 + qL h l b) * b := by
    unfold qR qL
    rw [Int.add_mul, Int.mul_right_comm]
    omega
  refine ⟨?_, ?_, ?_, ?_⟩
  · rw [e, Int.add_mul_ediv_right _ _ (by omega), Int.ediv_eq_zero_of_lt (show 0 ≤ qR h l b from r0) (show qR h l b < b from r1), Int.zero_add]
  · rw [e, Int.add_mul_emod_self_right]
    exact Int.emod_eq_of_lt r0 r1
  · unfold qL; exact Int.ediv_nonneg (by omega) (by omega)
  · unfold qL; exact Int.ediv_lt_of_lt_mul h0 (by omega)
theorem zeroW : Word 0 := ⟨by decide, by decide⟩
theorem fits_prod {b c : Int} (hb : Word b) (hc : Word c) : Fits (b * c).natAbs := by
  have := prod hb hc
  exact Fits.of (k := 4) (by omega) (by decide)
theorem absW {b : Int} (hb : Word b) : b.natAbs < 18446744073709551616 := by obtain ⟨h0, h1⟩ := hb; omega
theorem gW {b c : Int} (hb : Word b) (hc : Word c) : Word (gI b c) := gI_word hb hc
end Muls

theorem muls_all (ah al b c : Int) (h1 : Word ah) (h2 : Word al) (hb : Word b) (hc : Word c) (w : World) :
    Calls Try.prog 4 #[.agg #[.int .u64 ah, .int .u64 al], .int .u64 b, .int .u64 c] w fun e w' => e = .returned (.bool true) ∧ Below w.heap.size w w' := by
  have b0 := hb.1
  have c0 := hc.1
  have p := Muls.prod hb hc
  have A0 : 0 ≤ ah * 18446744073709551616 + al := by have := h1.1; have := h2.1; omega
  have A1 : ah * 18446744073709551616 + al < 340282366920938463463374607431768211456 := by have := h1.2; have := h2.2; omega
  by_cases hb0 : b = 0
  · subst hb0
    have eG : ((Nat.gcd (0 : Int).natAbs c.natAbs : Nat) : Int) = c := by simp; omega
    have eI : gI 0 c = c := by rw [← Muls.gI_eq (by omega) c0]; exact eG
    have e5 := lcm_any 0 c hb hc
    rw [lP_zero (.inl rfl)] at e5
    have e3 := gcd_any 0 c hb hc
    rw [eI] at e3
    exact muls_1 ah al c _ _ _ (by omega) (Muls.aof hb) (Muls.aof hc) (Muls.fits_prod hb hc) (Muls.absW hb) (Muls.absW hc) eG (Muls.awide p.1 p.2 rfl rfl) (mul_any 0 c hb hc) e3 (Muls.u64 hc) e5 (div_zero ah al) w
  · have hbp : 0 < b := by omega
    obtain ⟨v1, v2, v3, v4⟩ := Muls.div_val (h := ah) (l := al) (b := b) h2 hbp
    have Q0 : 0 ≤ (ah * 18446744073709551616 + al) / b := Int.ediv_nonneg A0 b0
    have Q1 : (ah * 18446744073709551616 + al) / b < 340282366920938463463374607431768211456 := Int.lt_of_le_of_lt (Int.ediv_le_self _ A0) A1
    have f1 : (ah * 18446744073709551616 + al) / b / 18446744073709551616 = ah / b := by omega
    have f2 : (ah * 18446744073709551616 + al) / b % 18446744073709551616 = qL ah al b := by omega
    have rW : Word (qR ah al b) := by
      rw [← v2]
      have := Int.emod_nonneg (ah * 18446744073709551616 + al) (show b ≠ 0 by omega)
      have := Int.emod_lt_of_pos (ah * 18446744073709551616 + al) hbp
      exact ⟨by omega, by have := hb.2; omega⟩
    by_cases hc0 : c = 0
    · subst hc0
      have eG : ((Nat.gcd b.natAbs (0 : Int).natAbs : Nat) : Int) = b := by simp; omega
      have eI : gI b 0 = b := by rw [← Muls.gI_eq b0 (by omega)]; exact eG
      have e5 := lcm_any b 0 hb hc
      rw [lP_zero (.inr rfl)] at e5
      have e3 := gcd_any b 0 hb hc
      rw [eI] at e3
      exact muls_2 ah al b _ _ _ _ _ _ _ _ _ (by omega) hbp (Muls.aof hb) (Muls.aof hc) (Muls.fits_prod hb hc) (Muls.absW hb) (Muls.absW hc) eG (Muls.awide p.1 p.2 rfl rfl) (mul_any b 0 hb hc) e3 (Muls.u64 hb) e5
        (div_any ah al b h1 h2 hb hbp) (Muls.abig h1 h2 rfl) (Muls.divmod A0 hbp hb.2 rfl v2) (Muls.awide Q0 Q1 f1 f2) (Muls.u64 rW) w
    · have hcp : 0 < c := by omega
      have gp := gI_pos (a := b) (b := c) (.inl hbp)
      have gw := gI_word hb hc
      have lb := Muls.lP_bound hb hc hbp
      have pw : Word (b * c / 18446744073709551616) := ⟨by omega, by omega⟩
      exact muls_3 ah al b c _ _ _ _ _ _ _ _ _ _ _ _ _ _ _ hbp hcp (Muls.aof hb) (Muls.aof hc) (Muls.fits_prod hb hc) (Muls.absW hb) (Muls.absW hc) (Muls.gI_eq b0 c0) (Muls.awide p.1 p.2 rfl rfl) (mul_any b c hb hc) (gcd_any b c hb hc) (Muls.u64 gw) (lcm_any b c hb hc)
        (Muls.abig pw (word_mod _) (by omega)) (Muls.div p.1 gp gw.2 (Muls.lP_eq b0)) (Muls.awide lb.1 lb.2 rfl rfl)
        (div_any ah al b h1 h2 hb hbp) (Muls.abig h1 h2 rfl) (Muls.divmod A0 hbp hb.2 rfl v2) (Muls.awide Q0 Q1 f1 f2) (Muls.u64 rW) w
end Go.Proofs.Ytfopcipapphogaa
