/- SumsTurn of package weirhousekeep: its walk. -/
import Derived.Test.YtalliljmkijeiaaSmCheck
namespace Go.Proofs.Ytalliljmkijeiaa
open Go.RowKit Go.Maps

theorem below_drewN {B : Nat} {a w : World} (h : Below B a w) (n : Nat) : Below B a (w.drewN n) := ⟨h.os, h.tape, h.output, h.size, h.block⟩
theorem wraps_u16 (n : Int) (h₀ : 0 ≤ n) (h₁ : n < 2 ^ 16) : IntKind.u16.wrap n = n := by
  simp [IntKind.wrap, IntKind.bits, IntKind.signed]
  omega
theorem or16 {x y : Int} (hx : Byte x) (hy : Byte y) : bits .or .u16 (x * 256) y = x * 256 + y := by
  obtain ⟨x0, x1⟩ := hx
  obtain ⟨y0, y1⟩ := hy
  exact bits_join .u16 16 (by decide) wraps_u16 8 (x * 256) y (by omega) (by omega) (by omega) y0 (by omega) (by omega)

/-- Two bytes of a word are turned. -/
theorem tot_word {bs : List Int} {k : Nat} {x y : Int} (hx : bs[2 * k]? = some x) (hy : bs[2 * k + 1]? = some y) (a b : Int) :
    tot 0 ((bs.set (2 * k) a).set (2 * k + 1) b) = tot 0 bs - (x * 256 + y) + (a * 256 + b) := by
  have hy' : (bs.set (2 * k) a)[2 * k + 1]? = some y := by rw [List.getElem?_set_ne (by omega)]; exact hy
  rw [tot_set _ _ 0 hy', tot_set _ _ 0 hx, Nat.zero_add, Nat.zero_add]
  rcases wt_two (2 * k) with ⟨e, _⟩ | ⟨_, h⟩
  · rcases wt_two (2 * k + 1) with ⟨_, h⟩ | ⟨e2, _⟩
    · omega
    · rw [e, e2]; omega
  · omega

set_option maxRecDepth 100000 in
set_option maxHeartbeats 2000000 in
theorem turn_law {w : World} {A : Option Addr} {cap n : Nat} {bs : List Int} (h : CameB w A cap bs) (hn : bs.length = n) {at_ t : Int} (ha : -9223372036854775808 ≤ at_ ∧ at_ ≤ 9223372036854775807) (ht : Half t) :
    Calls Try.prog 6 #[.slice A n cap, .int .i64 at_, .int .u16 t] w fun e w' => e = .returned (.bool true) ∧ Below w.heap.size w w' := by
  have H0 := Lib.hid (alive4_any w)
  have hsz := h.size
  rw [hn] at hsz
  go_enter Try.func6, Try.ntmps6
  go_wp2_with fail
  refine H0.out.mono ?_
  rintro e w1 ⟨rfl, hb1⟩
  have hC1 := h.below hb1
  have HB1 := Lib.hid hb1
  clear hb1 H0 h
  by_cases a0 : at_ < 0
  · clear hC1
    go_wp2_with fail
    go_ret
    exact ⟨rfl, HB1.out⟩
  by_cases a1 : (n : Int) < at_
  · clear hC1
    go_wp2_with fail
    go_ret
    exact ⟨rfl, HB1.out⟩
  by_cases a2 : (n : Int) ≤ 2 * at_ + 1
  · clear hC1
    go_wp2_with fail
    go_ret
    exact ⟨rfl, HB1.out⟩
  obtain ⟨k, rfl⟩ := Int.eq_ofNat_of_zero_le (show 0 ≤ at_ by omega)
  obtain ⟨b, off, x, rfl, cx, hx, x0, x1⟩ := hC1.lies.next (i := 2 * k) (by omega)
  obtain ⟨b', off', y, e, cy, hy, y0, y1⟩ := hC1.lies.next (i := 2 * k + 1) (by omega)
  injection e with e
  injection e with e1 e2
  subst e1 e2
  have eo := or16 ⟨x0, x1⟩ ⟨y0, y1⟩
  have HC := Lib.hid hC1
  have HX := Lib.hid (And.intro hx hy)
  clear hC1 hx hy
  have j0 : (0 : Int) ≤ 2 * (k : Int) := by omega
  have j1 : 2 * (k : Int) < (n : Int) := by omega
  have j2 : 2 * (k : Int) + 1 < (n : Int) := by omega
  go_wp2
  go_quiet (fail)
  have H2 := clone_bytes (HC.out.below (below_drewN (Below.refl _ w1) nq))
  rw [hn] at H2
  have H2' := Lib.hid H2
  clear H2
  go_wp2_with fail
  refine H2'.out.mono ?_
  rintro e w2 ⟨v, rfl, k1, k2⟩
  have hb2 := (below_drewN HB1.out nq).trans (k2.mono HB1.out.size)
  have hk : Below w1.heap.size w1 w2 := (below_drewN (Below.refl _ w1) nq).trans k2
  have hC2 := HC.out.below hk
  have hB2 : w1.heap.size ≤ w2.heap.size := k2.size
  have k1' : OwnB w1.heap.size w2 v bs := k1
  clear k1 k2 H2'
  obtain ⟨g, cap2, rfl, hg, c0, z0⟩ := k1'.at (i := 2 * k) (by omega)
  obtain ⟨g', cap2', e, _, c1, z1⟩ := k1'.at (i := 2 * k + 1) (by omega)
  injection e with e1 _ e3
  injection e1 with e1
  injection e1 with e1
  subst e1 e3
  have s1 := k1'.stored (2 * k) (t / 256)
  have s2 := (show OwnB w1.heap.size _ (.slice (some ⟨g, 0, none⟩) (bs.set (2 * k) (t / 256)).length cap2) _ from by rw [List.length_set]; exact s1).stored (2 * k + 1) (t % 256)
  have hl2 : ((bs.set (2 * k) (t / 256)).set (2 * k + 1) (t % 256)).length = n := by rw [List.length_set, List.length_set, hn]
  obtain ⟨t0, t1⟩ := ht
  have hBy : Bytes ((bs.set (2 * k) (t / 256)).set (2 * k + 1) (t % 256)) := (hC2.lies.bytes.set _ ⟨by omega, by omega⟩).set _ ⟨by omega, by omega⟩
  obtain ⟨A3, cap3, e5, hL⟩ := (show OwnB w1.heap.size _ (.slice (some ⟨g, 0, none⟩) ((bs.set (2 * k) (t / 256)).set (2 * k + 1) (t % 256)).length cap2) _ from by rw [List.length_set]; exact s2).form hBy (by rw [hl2]; omega)
  injection e5 with e6 _ e7
  subst e6 e7
  have hb3 := (hb2.setCell (p := ⟨g, 2 * k, none⟩) (Nat.le_trans HB1.out.size hg) (.int .u8 (t / 256))).setCell (p := ⟨g, 2 * k + 1, none⟩) (Nat.le_trans HB1.out.size hg) (.int .u8 (t % 256))
  have hC3 := HC.out.below ((hk.setCell (p := ⟨g, 2 * k, none⟩) hg (.int .u8 (t / 256))).setCell (p := ⟨g, 2 * k + 1, none⟩) hg (.int .u8 (t % 256)))
  have H3 := check_any hC3.lies cap
  have H5 := check_any hL cap2
  have h0 := tot_all hC3.lies
  have h1 := tot_all hL
  have et := tot_word HX.out.1 HX.out.2 (t / 256) (t % 256)
  rw [show t / 256 * 256 + t % 256 = t by omega] at et
  rw [hn] at H3
  rw [hl2] at H5
  rw [et] at H5 h1
  have hal := turn_alike h0 ⟨by omega, by omega⟩ ⟨t0, t1⟩ h1
  have hh : Half (65535 - fd (tot 0 bs)) := half_not (fd_half h0)
  have hw : Half (x * 256 + y) := ⟨by omega, by omega⟩
  have H4 := fun w => turn_any hh hw ⟨t0, t1⟩ w
  have H6 := fun w => same_any (65535 - fd (fd ((65535 - (65535 - fd (tot 0 bs))) + (65535 - (x * 256 + y))) + t)) (65535 - fd (tot 0 bs - (x * 256 + y) + t)) w
  rw [decide_eq_true hal] at H6
  clear hal et hL s1 s2 hBy hC2 hC3 hk k1' HC HX hl2 hb2 h0 h1
  generalize 65535 - fd (fd ((65535 - (65535 - fd (tot 0 bs))) + (65535 - (x * 256 + y))) + t) = r at *
  generalize 65535 - fd (tot 0 bs - (x * 256 + y) + t) = s at *
  generalize 65535 - fd (tot 0 bs) = c at *
  have H3' := Lib.hid H3
  have H4' := Lib.hid H4
  have H5' := Lib.hid H5
  have H6' := Lib.hid H6
  have HB3 := Lib.hid hb3
  obtain ⟨hh0, hh1⟩ := hh
  clear H3 H4 H5 H6 hb3
  go_wp2_with fail
  refine H3'.out.mono ?_
  rintro e w3 ⟨rfl, rfl⟩
  go_wp2_with fail
  refine (H4'.out _).mono ?_
  rintro e w3 ⟨rfl, rfl⟩
  go_wp2_with fail
  refine H5'.out.mono ?_
  rintro e w3 ⟨rfl, rfl⟩
  go_wp2_with fail
  refine (H6'.out _).mono ?_
  rintro e w3 ⟨rfl, rfl⟩
  go_wp2
  go_ret
  exact ⟨rfl, HB3.out⟩
end Go.Proofs.Ytalliljmkijeiaa
