/- Bytes of the call's own that are turned. -/
import Derived.Test.YtmigfemkbdehbaaSm4a
namespace Go.Proofs.Ytmigfemkbdehbaa
open Go.RowKit Go.Maps

theorem u8s_set (bs : List Int) (i : Nat) (y : Int) : u8s (bs.set i y) = (u8s bs).set i (.int .u8 y) := by simp [u8s]
theorem OwnB.stored {B : Nat} {w : World} {g cap : Nat} {bs : List Int} (h : OwnB B w (.slice (some ⟨g, 0, none⟩) bs.length cap) bs) (i : Nat) (y : Int) :
    OwnB B (w.setCell ⟨g, i, none⟩ (.int .u8 y)) (.slice (some ⟨g, 0, none⟩) bs.length cap) (bs.set i y) := by
  unfold OwnB
  rw [u8s_set, List.length_set]
  exact (World.ownsRow.stored h i _).1
theorem OwnB.at {B : Nat} {w : World} {v : Value} {bs : List Int} (h : OwnB B w v bs) {i : Nat} (hi : i < bs.length) :
    ∃ g cap, v = .slice (some ⟨g, 0, none⟩) bs.length cap ∧ B ≤ g ∧ w.cell? ⟨g, i, none⟩ = some (.int .u8 bs[i]) ∧ w.frozen? ⟨g, i, none⟩ = false := by
  rcases h.2 with ⟨_, h0⟩ | ⟨g, cap, cur, rfl, hB, hg, hn, _, hs, ht⟩
  · omega
  · refine ⟨g, cap, rfl, hB, ?_, World.ownsRow.frozenAt h i⟩
    rw [World.ownsRow.cellAt h i (by omega)]
    exact u8s_at (List.getElem?_eq_getElem hi)

theorem bits_xor8 {x t : Int} (hx : Byte x) (ht : Byte t) (h0 : t ≠ 0) : Byte (bits .xor .u8 x t) ∧ x ≠ bits .xor .u8 x t := by
  obtain ⟨x0, x1⟩ := hx
  obtain ⟨t0, t1⟩ := ht
  obtain ⟨x, rfl⟩ := Int.eq_ofNat_of_zero_le x0
  obtain ⟨t, rfl⟩ := Int.eq_ofNat_of_zero_le t0
  have e : bits .xor .u8 (x : Int) (t : Int) = ((x ^^^ t : Nat) : Int) := by
    show IntKind.u8.wrap ((BitVec.ofInt 8 (x : Int) ^^^ BitVec.ofInt 8 (t : Int)).toNat : Int) = _
    have hlt : x ^^^ t < 2 ^ 8 := Nat.xor_lt_two_pow (by omega) (by omega)
    rw [BitVec.toNat_xor, BitVec.ofInt_natCast, BitVec.ofInt_natCast, BitVec.toNat_ofNat, BitVec.toNat_ofNat, Nat.mod_eq_of_lt (by omega), Nat.mod_eq_of_lt (by omega), IntKind.wrap_u8]
    omega
  rw [e]
  have hlt : x ^^^ t < 2 ^ 8 := Nat.xor_lt_two_pow (by omega) (by omega)
  refine ⟨⟨by omega, by omega⟩, fun h => h0 ?_⟩
  have h : x = x ^^^ t := by omega
  have h2 : x ^^^ x = x ^^^ (x ^^^ t) := by rw [← h]
  rw [Nat.xor_self, ← Nat.xor_assoc, Nat.xor_self, Nat.zero_xor] at h2
  omega

theorem tot_two {bs : List Int} (he : bs.length % 2 = 0) (a b : Int) : tot 0 (bs ++ [a, b]) = tot 0 bs + (256 * a + b) := by
  rw [tot_append]
  simp only [tot, Nat.zero_add]
  rcases wt_two bs.length with ⟨e, _⟩ | ⟨_, h⟩
  · rcases wt_two (bs.length + 1) with ⟨_, h⟩ | ⟨e2, _⟩
    · omega
    · rw [e, e2]; omega
  · omega

theorem all_sums {bs : List Int} (hb : Bytes bs) (he : bs.length % 2 = 0) {c : Int} (hc : c = 65535 - fd (tot 0 bs)) : fd (tot 0 (bs ++ [c / 256, c % 256])) = 65535 := by
  rw [tot_two he, show 256 * (c / 256) + c % 256 = c by omega, hc]
  exact check_all (tot_bound hb 0).1
theorem turned_all {xs : List Int} (hb : Bytes xs) (hs : fd (tot 0 xs) = 65535) {i : Nat} (hi : i < xs.length) {t : Int} (ht : Byte t) (h0 : t ≠ 0) : Bytes (xs.set i (bits .xor .u8 xs[i] t)) ∧ fd (tot 0 (xs.set i (bits .xor .u8 xs[i] t))) ≠ 65535 := by
  have hx : xs[i]? = some xs[i] := List.getElem?_eq_getElem hi
  obtain ⟨h1, h2⟩ := bits_xor8 (hb.at hx) ht h0
  refine ⟨hb.set i h1, ?_⟩
  have hp := (tot_bound (hb.set i h1) 0).1
  rw [tot_set xs i 0 hx, Nat.zero_add] at hp ⊢
  exact turned_seen hs (tot_bound hb 0).1 (by rcases wt_two i with ⟨e, _⟩ | ⟨e, _⟩ <;> simp [e]) (hb.at hx) h1 h2 hp

theorem below_drewN {B : Nat} {a w : World} (h : Below B a w) (n : Nat) : Below B a (w.drewN n) := ⟨h.os, h.tape, h.output, h.size, h.block⟩
theorem wraps_u16 (n : Int) (h₀ : 0 ≤ n) (h₁ : n < 2 ^ 16) : IntKind.u16.wrap n = n := by
  simp [IntKind.wrap, IntKind.bits, IntKind.signed]
  omega
theorem or16 {x y : Int} (hx : Byte x) (hy : Byte y) : bits .or .u16 (x * 256) y = x * 256 + y := by
  obtain ⟨x0, x1⟩ := hx
  obtain ⟨y0, y1⟩ := hy
  exact bits_join .u16 16 (by decide) wraps_u16 8 (x * 256) y (by omega) (by omega) (by omega) y0 (by omega) (by omega)

end Go.Proofs.Ytmigfemkbdehbaa
