/- The reference's GCD below 2^64: a contract. -/
import Derived.Test.YtemoleopabddnaaBig20a
namespace Go.Proofs.Ytemoleopabddnaa
open Go.RowKit

set_option maxRecDepth 100000 in
set_option maxHeartbeats 2000000 in
theorem gcd_small (gz ga gb : Nat) (a b : Int) (w : World) (hz : Room w gz) (ha : IntAt w ga a) (hb : IntAt w gb b) (la : a.natAbs < 18446744073709551616) (lb : b.natAbs < 18446744073709551616) :
    Calls Try.prog 45 #[.pointer (some ⟨gz, 0, none⟩), .pointer none, .pointer none, .pointer (some ⟨ga, 0, none⟩), .pointer (some ⟨gb, 0, none⟩)] w fun e w' =>
      e = .returned (.pointer (some ⟨gz, 0, none⟩)) ∧ w.grownBy w' (some gz) ∧ IntAt w' gz (Nat.gcd a.natAbs b.natAbs : Nat) := by
  have b0 := (Below.refl w.heap.size w).alloc (Nat.le_refl _) (.cells #[.bool false, .slice none 0 0] 45)
  have lz := hz.lt
  have lxa := ha.room.lt
  have lxb := hb.room.lt
  obtain ⟨X, hX⟩ : ∃ X, a.natAbs = X := ⟨_, rfl⟩
  obtain ⟨Y, hY⟩ : ∃ Y, b.natAbs = Y := ⟨_, rfl⟩
  rw [hX] at la ⊢
  rw [hY] at lb ⊢
  go_enter Try.func45, Try.ntmps45
  go_wp2_with fail
  refine (abs_int w.heap.size ga a _ (by omega) (room_new w) (ha.below b0)).mono ?_
  rintro e w1 ⟨rfl, g1, i1⟩
  have b1 : Below w.heap.size w w1 := below_of_grown b0 g1 (Nat.le_refl _)
  have z1 := b1.size
  have l1 := i1.room.lt
  have c1 := (Below.refl w1.heap.size w1).alloc (Nat.le_refl _) (.cells #[.bool false, .slice none 0 0] 45)
  go_wp2_with fail
  refine (abs_int w1.heap.size gb b _ (by omega) (room_new w1) ((hb.below b1).below c1)).mono ?_
  rintro e w2 ⟨rfl, g2, i2⟩
  have b2 : Below w1.heap.size w1 w2 := below_of_grown c1 g2 (Nat.le_refl _)
  have B2 : Below w.heap.size w w2 := below_of b1 b2 b1.size
  have j1 := i1.below b2
  have z2 := b2.size
  have R2 := hz.below B2
  rw [hX] at j1
  rw [hY] at i2
  clear i1
  have hx0 : Y = 0 → Calls Try.prog 38 #[.pointer (some ⟨w1.heap.size, 0, none⟩)] w2 fun e w' => e = .returned (.int .i64 0) ∧ w2 = w' := fun h => sign_zero _ _ (by subst h; exact i2)
  have hx1 : 0 < Y → Calls Try.prog 38 #[.pointer (some ⟨w1.heap.size, 0, none⟩)] w2 fun e w' => e = .returned (.int .i64 1) ∧ w2 = w' := fun h => sign_plus _ _ _ i2 (by omega)
  obtain ⟨A, n, c, f, hg, e1, e2, hn, hd, hs, ht, vX⟩ := j1.nat
  obtain ⟨A', m, c', f', hg', e1', e2', hm, hd', hs', ht', vY⟩ := i2.nat
  have n3 : n ≤ 2 := len_le (k := 2) ht (by rw [← vX]; exact la)
  have m3 : m ≤ 2 := len_le (k := 2) ht' (by rw [← vY]; exact lb)
  have p1 : w2.cell? ⟨w.heap.size, 1, none⟩ = some (.slice A n c) := hg.cell (by decide)
  have q1 : w2.cell? ⟨w1.heap.size, 1, none⟩ = some (.slice A' m c') := hg'.cell (by decide)
  have u1 := uint64_small w.heap.size X w2 j1 la
  have u2 := uint64_small w1.heap.size Y w2 i2 lb
  have VX := Lib.hid vX
  have VY := Lib.hid vY
  clear vX vY ht ht' hs hs' hd hd' hg hg'
  go_wp2_with fail
  go_loopw [11, 12] (fun p q wr => p = .pointer (some ⟨w.heap.size, 0, none⟩) ∧ q = .pointer (some ⟨w1.heap.size, 0, none⟩) ∧ wr = w2) (fun _ _ _ => 0)
  case atStart => exact ⟨rfl, rfl, rfl⟩
  case round =>
    obtain ⟨rfl, rfl, rfl⟩ := hrel
    by_cases h0 : Y = 0
    · subst h0
      go_wp2_with fail
      refine (hx0 (by first | rfl | trivial)).mono ?_
      rintro e w3 ⟨rfl, hw⟩
      subst hw
      go_wp2_with fail
      refine (set_int gz w.heap.size X _ (by omega) R2 j1).mono ?_
      rintro e w3 ⟨rfl, g3, i3⟩
      go_wp2_with fail
      go_ret
      rw [Nat.gcd_zero_right]
      exact ⟨rfl, grown_trans (grown_of_below B2) g3, i3⟩
    · go_wp2_with fail
      refine (hx1 (by omega)).mono ?_
      rintro e w3 ⟨rfl, hw⟩
      subst hw
      go_wp2_with fail
      refine u1.mono ?_
      rintro e w3 ⟨rfl, hw⟩
      subst hw
      go_wp2_with fail
      refine u2.mono ?_
      rintro e w3 ⟨rfl, hw⟩
      subst hw
      go_wp2_with fail
      go_loopw [13, 14] (fun x y wi => ∃ p q k : Nat, x = .int .u64 p ∧ y = .int .u64 q ∧ p < 18446744073709551616 ∧ q < 18446744073709551616 ∧ Nat.gcd p q = Nat.gcd X Y ∧ wi = wr.drewN k) (fun _ y _ => (intOf y).toNat)
      case atStart => exact ⟨X, Y, 0, rfl, rfl, la, lb, rfl, rfl⟩
      case round =>
        obtain ⟨p, q, k, rfl, rfl, hp, hq, hg, rfl⟩ := hrel
        have HG := Lib.hid hg
        clear hg
        by_cases h1 : q = 0
        · subst h1
          go_wp2_with fail
          refine (setU_any gz p _ (R2.drewN k) hp).mono ?_
          rintro e w3 ⟨rfl, g3, i3⟩
          go_wp2_with fail
          go_ret
          rw [← HG.out, Nat.gcd_zero_right]
          exact ⟨rfl, grown_trans (grown_drewN (grown_of_below B2) k) g3, i3⟩
        · have k2 : ((q : Int) == 0) = false := by simp; omega
          have k3 : 0 < q := by omega
          have k4 : p % q < q := Nat.mod_lt _ k3
          go_wp2_with fail
          go_quiet (fail)
          go_wp2_with fail
          go_roundw
          case rel => exact ⟨q, p % q, _, rfl, by go_num, hq, by omega, by rw [show Nat.gcd q (p % q) = Nat.gcd p q by rw [Nat.gcd_comm q, ← Nat.gcd_rec, Nat.gcd_comm]]; exact HG.out, by rw [World.drewN_drewN]⟩
          case measure => simp [intOf]; omega
end Go.Proofs.Ytemoleopabddnaa
