/- head.unreadable tells why bytes can't be read. -/
import Derived.Test.YtmigfemkbdehbaaHd2
namespace Go.Proofs.Ytmigfemkbdehbaa
open Go.RowKit Go.Maps

theorem Lies.take {w : World} {A : Option Addr} {bs : List Int} (h : Lies w A bs) (n : Nat) : Lies w A (bs.take n) := by
  have hl : (bs.take n).length ≤ bs.length := by rw [List.length_take]; omega
  refine ⟨fun h0 => ?_, h.bytes.take n, Nat.le_trans hl h.len⟩
  obtain ⟨b, off, e, hb, hc⟩ := h.at_ (Nat.lt_of_lt_of_le h0 hl)
  refine ⟨b, off, e, hb, fun j x hx => hc j x ?_⟩
  rw [List.getElem?_take] at hx
  split at hx
  · exact hx
  · cases hx
theorem drewN_drewN (w : World) (a b : Nat) : ∃ c, (w.drewN a).drewN b = w.drewN c := ⟨_, World.drewN_drewN w a b⟩

set_option maxRecDepth 100000 in
set_option maxHeartbeats 2000000 in
theorem unreadable_any {w : World} {A : Option Addr} {bs : List Int} (h : Lies w A bs) {cap : Nat} (hc : bs.length ≤ cap) :
    Calls Try.prog 22 #[.slice A bs.length cap] w fun e w' => e = .returned (.int .i64 (unread bs)) ∧ ∃ m, w' = w.drewN m := by
  have hl := h.len
  by_cases hs : bs.length < 20
  · have HR : Hid (unread bs = 8) := Lib.hid (by unfold unread; rw [if_pos hs])
    generalize unread bs = R at *
    generalize bs.length = n at *
    have i1 : (n : Int) < 20 := by omega
    clear h
    go_enter Try.func22, Try.ntmps22
    go_wp2_with fail
    go_ret
    exact ⟨ret_int HR.out.symm, 0, rfl⟩
  · have HR : Hid (unread bs = _) := Lib.hid (by unfold unread; rw [if_neg hs])
    have H1 := Lib.hid (headerBytes_any h cap (by omega))
    have H2 := Lib.hid (word_any h cap (i := 2) (by omega))
    have hz : 0 ≤ hsize bs ∧ hsize bs ≤ 60 := by
      obtain ⟨a, b⟩ := nth_byte h.bytes 0
      unfold hsize
      exact ⟨by omega, by omega⟩
    obtain ⟨z, hz'⟩ := Int.eq_ofNat_of_zero_le hz.1
    have hL := wordAt_half h.bytes 2
    have H3 := Lib.hid (fun m => portsPresent_any (lies_drewN h m) cap (by omega))
    have H4 : ∀ m, z ≤ bs.length → Calls Try.prog 27 #[.slice A z cap] (w.drewN m) fun e w' => e = .returned (.int .u16 (fd (tot 0 (bs.take z)))) ∧ w.drewN m = w' := fun m hm => by
      have := of_any (lies_drewN (h.take z) m) cap
      rwa [List.length_take, Nat.min_eq_left hm] at this
    have H4' := Lib.hid H4
    obtain ⟨b, off, rfl, c0, x0, x1⟩ := h.nth (i := 0) (by omega)
    rw [Nat.add_zero] at c0
    rw [hz'] at H1 HR hz
    rw [show ((z : Int)).toNat = z from Int.toNat_natCast z] at HR
    generalize fd (tot 0 (bs.take z)) = T at *
    generalize portsIn bs = P at *
    generalize wordAt bs 2 = L at *
    generalize unread bs = R at *
    generalize nth bs 0 = x at *
    generalize bs.length = n at *
    have i1 : ¬ ((n : Int) < 20) := by omega
    have i2 : (0 : Int) < (n : Int) := by omega
    obtain ⟨L0, L1⟩ := hL
    obtain ⟨z0, z1⟩ := hz
    clear h hz' H4
    go_enter Try.func22, Try.ntmps22
    go_wp2_with fail
    refine H1.out.mono ?_
    rintro e w1 ⟨rfl, rfl⟩
    go_wp2_with fail
    refine H2.out.mono ?_
    rintro e w1 ⟨rfl, m, rfl⟩
    clear H1 H2
    have c0' : (w.drewN m).cell? ⟨b, off, none⟩ = some (.int .u8 x) := c0
    by_cases a1 : x / 16 = 4
    case neg =>
      have a1' : (x / 16 != 4) = true := by simpa using a1
      clear H3 H4'
      go_wp2_with fail
      go_ret
      exact ⟨ret_int (by rw [HR.out, if_pos (by omega)]), _, rfl⟩
    have a1' : (x / 16 != 4) = false := by simpa using a1
    by_cases a2 : z < 20
    · have a2' : (z : Int) < 20 := by omega
      clear H3 H4'
      go_wp2_with fail
      go_ret
      exact ⟨ret_int (by rw [HR.out, if_pos (by omega)]), _, rfl⟩
    have a2' : ¬ (z : Int) < 20 := by omega
    have HR2 := Lib.hid (HR.out.trans (if_neg (by omega)))
    clear HR
    by_cases a3 : n < z
    · have a3' : (n : Int) < (z : Int) := by omega
      clear H3 H4'
      go_wp2_with fail
      go_ret
      exact ⟨ret_int (by rw [HR2.out, if_pos (by omega)]), _, rfl⟩
    have a3' : ¬ (n : Int) < (z : Int) := by omega
    by_cases a4 : (n : Int) < L
    · clear H3 H4'
      go_wp2_with fail
      go_ret
      exact ⟨ret_int (by rw [HR2.out, if_pos (by omega)]), _, rfl⟩
    have HR3 := Lib.hid (HR2.out.trans (if_neg (by omega)))
    clear HR2
    by_cases a5 : L < (z : Int)
    · clear H3 H4'
      go_wp2_with fail
      go_ret
      exact ⟨ret_int (by rw [HR3.out, if_pos (by omega)]), _, rfl⟩
    have HR4 := Lib.hid (HR3.out.trans (if_neg a5))
    have zc : (z : Int) ≤ (cap : Int) := by omega
    clear HR3
    go_wp2_with fail
    refine (H4'.out _ (by omega)).mono ?_
    rintro e w1 ⟨rfl, rfl⟩
    by_cases a6 : T = 65535
    case neg =>
      have a6' : (T != 65535) = true := by simpa using a6
      clear H3 H4'
      go_wp2_with fail
      go_ret
      exact ⟨ret_int (by rw [HR4.out, if_pos a6]), _, rfl⟩
    subst a6
    have HR5 := Lib.hid (HR4.out.trans (if_neg (by simp)))
    clear HR4 H4'
    go_wp2_with fail
    refine (H3.out _).mono ?_
    rintro e w1 ⟨rfl, m2, rfl⟩
    rw [World.drewN_drewN]
    cases P with
    | false =>
      go_wp2_with fail
      go_ret
      exact ⟨ret_int (by rw [HR5.out, if_neg (by simp)]), _, rfl⟩
    | true =>
      by_cases a7 : L < (z : Int) + 4
      · go_wp2_with fail
        go_ret
        exact ⟨ret_int (by rw [HR5.out, if_pos (by simp [a7])]), _, rfl⟩
      · go_wp2_with fail
        go_ret
        exact ⟨ret_int (by rw [HR5.out, if_neg (by simp; omega)]), _, rfl⟩
end Go.Proofs.Ytmigfemkbdehbaa
