/- The reference's Bit, SetBit and Sqrt: contracts. -/
import Derived.Test.YtfopcipapphogaaRat6
import Derived.Test.YtfopcipapphogaaFrRoot
namespace Go.Proofs.Ytfopcipapphogaa
open Go.RowKit

set_option maxHeartbeats 1000000 in
theorem bit_zero (gx X k : Nat) (w : World) (hx : IntAt w gx X) (hb : X / 2 ^ k % 2 = 0) (hk : k ≤ 3200000) :
    Calls Try.prog 89 #[.pointer (some ⟨gx, 0, none⟩), .int .i64 k] w fun e w' => e = .returned (.int .u64 0) ∧ w = w' := by
  obtain ⟨A, n, c, f, hg, h1, h2, hn, hd, hs, ht, rfl⟩ := hx.nat
  have c1 : w.cell? ⟨gx, 1, none⟩ = some (.slice A n c) := hg.cell (by decide)
  obtain ⟨q, r, hr, rfl⟩ : ∃ q r : Nat, r < 32 ∧ k = 32 * q + r := ⟨k / 32, k % 32, by omega, by omega⟩
  have e1 : (32 * q + r) / 32 = q := by omega
  have e2 : (32 * (q : Int) + (r : Int)) / 32 = (q : Int) := by omega
  have e3 : (32 * (q : Int) + (r : Int)) % 32 = (r : Int) := by omega
  by_cases hqn : q < n
  · obtain ⟨b, rfl⟩ := hd.addr (by omega)
    have hxc := (hd.cell (j := q) hqn).1
    have hxs := hs q hqn
    rw [bit_of hs hqn hr] at hb
    have hd2 : f q / 2 ^ r ≤ f q := Nat.div_le_self _ _
    have ed : (f q : Int) / 2 ^ r = ((f q / 2 ^ r : Nat) : Int) := by push_cast; rfl
    obtain ⟨D, hD⟩ : ∃ D, f q / 2 ^ r = D := ⟨_, rfl⟩
    rw [hD] at ed hd2 hb
    clear hD
    have ea : bits .and .u32 (D : Int) 1 = 0 := by
      rw [and_one_u32 (by omega)]
      omega
    go_enter Try.func89, Try.ntmps89
    go_wp2
    go_ret
    exact ⟨rfl, rfl⟩
  · clear hb
    go_enter Try.func89, Try.ntmps89
    go_wp2
    go_ret
    exact ⟨rfl, rfl⟩

set_option maxRecDepth 100000 in
set_option maxHeartbeats 1000000 in
/-- SetBit of a bit that is not set yet. -/
theorem setBit_any (gz gx R k : Nat) (w : World) (hz : Room w gz) (Ix : IntAt w gx R) (hbit : R / 2 ^ k % 2 = 0) (hk : k ≤ 100) (hv : Fits (R + 2 ^ k)) :
    Calls Try.prog 79 #[.pointer (some ⟨gz, 0, none⟩), .pointer (some ⟨gx, 0, none⟩), .int .i64 k, .int .u64 1] w fun e w' => e = .returned (.pointer (some ⟨gz, 0, none⟩)) ∧ w.grownBy w' (some gz) ∧ IntAt w' gz (R + 2 ^ k : Nat) := by
  have hp : Fits (2 ^ k) := hv.le (by omega)
  have hp2 : Fits ((1 : Int) * 2 ^ k).natAbs := by
    rw [Int.one_mul, show ((2 : Int) ^ k) = ((2 ^ k : Nat) : Int) by push_cast; rfl]
    exact hp
  have ev : ((R : Int) + 1 * 2 ^ k) = ((R + 2 ^ k : Nat) : Int) := by push_cast; omega
  have hv2 : Fits ((R : Int) + 1 * 2 ^ k).natAbs := by rw [ev]; exact hv
  have B := Below.refl w.heap.size w
  have hs0 := B.size
  have lz := hz.lt
  have lx := Ix.room.lt
  go_enter Try.func79, Try.ntmps79
  have S1Ix := Ix
  have S1B := B
  obtain ⟨V1, hV1⟩ : ∃ V, w.alloc (.cells #[.bool false, .slice none 0 0] 32) = V := ⟨_, rfl⟩
  have AV1 : Below w.heap.size w V1 := hV1 ▸ (Below.refl _ _).alloc (Nat.le_refl _) _
  have zV1 : w.heap.size + 1 = V1.heap.size := by rw [← hV1]; simp
  replace Ix := Ix.below AV1
  have Ro : Room V1 w.heap.size := hV1 ▸ room_new w
  replace B := below_of B AV1 B.size
  have sV1 := B.size
  go_wp2_with fail
  with_reducible refine (newInt_z 1 _ (by decide) (by decide)).mono ?_
  rintro e w1 ⟨gu, hgu, rfl, hb, Iu⟩
  have b1 : Below V1.heap.size V1 w1 := hb
  replace Ix := Ix.below b1
  replace Ro := Ro.below b1
  replace B := below_of B b1 B.size
  have sw1 := b1.size
  have lu := Iu.room.lt
  go_wp2_with fail
  have GB : Below w.heap.size w w1 := (below_of (below_of (Below.refl w.heap.size w) AV1 (by omega)) b1 (by omega))
  with_reducible refine (lsh_int w.heap.size gu 1 k _ Ro Iu (by omega) hp2).mono ?_
  rintro e w2x ⟨rfl, gr, Io⟩
  have K1 : Below w.heap.size w w2x := GB.grown gr GB.size (fun k hk => by injection hk with hk; omega)
  replace Ix := S1Ix.below K1
  replace B := below_of S1B K1 S1B.size
  have sK1 := K1.size
  clear gr GB
  have lo := Io.room.lt
  go_wp2_with fail
  with_reducible refine (bit_zero gx R k _ Ix hbit (by omega)).mono ?_
  rintro e wq ⟨rfl, hq⟩
  subst hq
  go_wp2_with fail
  with_reducible refine (add_int gz gx w.heap.size R (1 * 2 ^ k) _ (hz.below B) Ix Io hv2).mono ?_
  rintro e wz ⟨rfl, gr, Iz⟩
  rw [ev] at Iz
  go_wp2
  go_ret
  exact ⟨rfl, grown_trans (grown_of_below B) gr, Iz⟩

/-- Before bit k - 1 is tried. -/
structure SqInv (X r k : Nat) : Prop where
  c : ∃ c, r = 2 ^ k * c
  lo : r * r ≤ X
  hi : X < (r + 2 ^ k) * (r + 2 ^ k)
  top : r + 2 ^ k ≤ 2 ^ 36
theorem sqInv_end {X r : Nat} (h : SqInv X r 0) (hX : X < 18446744073709551616) : RootIs X r := by
  have lo := h.lo
  refine ⟨lo, by simpa using h.hi, ?_⟩
  rcases Nat.lt_or_ge r 4294967296 with c | c
  · exact c
  · have := Nat.mul_le_mul c c
    omega
theorem sqInv_bit {X r j : Nat} (h : SqInv X r (j + 1)) : r / 2 ^ j % 2 = 0 := by
  obtain ⟨⟨c, rfl⟩, _, _, _⟩ := h
  rw [Nat.pow_succ, Nat.mul_assoc, Nat.mul_div_cancel_left _ (Nat.two_pow_pos j), Nat.mul_mod_right]
theorem sqInv_yes {X r j : Nat} (h : SqInv X r (j + 1)) (hl : (r + 2 ^ j) * (r + 2 ^ j) ≤ X) : SqInv X (r + 2 ^ j) j := by
  obtain ⟨⟨c, rfl⟩, lo, hi, top⟩ := h
  have e2 : 2 ^ (j + 1) = 2 ^ j + 2 ^ j := by rw [Nat.pow_succ]; omega
  refine ⟨⟨2 * c + 1, ?_⟩, hl, ?_, ?_⟩
  · rw [Nat.pow_succ, Nat.mul_add, Nat.mul_one, Nat.mul_assoc]
  · rw [Nat.add_assoc, ← e2]; exact hi
  · rw [Nat.add_assoc, ← e2]; exact top
theorem sqInv_no {X r j : Nat} (h : SqInv X r (j + 1)) (hl : X < (r + 2 ^ j) * (r + 2 ^ j)) : SqInv X r j := by
  obtain ⟨⟨c, rfl⟩, lo, hi, top⟩ := h
  have e2 : 2 ^ (j + 1) = 2 ^ j + 2 ^ j := by rw [Nat.pow_succ]; omega
  refine ⟨⟨2 * c, ?_⟩, lo, hl, Nat.le_trans (Nat.add_le_add_left (Nat.pow_le_pow_right (by decide) (by omega)) _) top⟩
  rw [Nat.pow_succ, Nat.mul_assoc]
theorem sqInv_start {X L : Nat} (h : X < 2 ^ L) (hL : L ≤ 64) : SqInv X 0 (L / 2 + 2) := by
  refine ⟨⟨0, by simp⟩, by simp, ?_, ?_⟩
  · rw [Nat.zero_add, ← Nat.pow_add]
    exact Nat.lt_of_lt_of_le h (Nat.pow_le_pow_right (by decide) (by omega))
  · rw [Nat.zero_add]
    exact Nat.pow_le_pow_right (by decide) (by omega)

set_option maxRecDepth 100000 in
set_option maxHeartbeats 2000000 in
theorem sqrt_any (gz gx X : Nat) (w : World) (hz : Room w gz) (hx : IntAt w gx X) (hX : X < 18446744073709551616) :
    Calls Try.prog 44 #[.pointer (some ⟨gz, 0, none⟩), .pointer (some ⟨gx, 0, none⟩)] w fun e w' => e = .returned (.pointer (some ⟨gz, 0, none⟩)) ∧ w.grownBy w' (some gz) ∧ ∃ r : Nat, RootIs X r ∧ IntAt w' gz r := by
  have lz := hz.lt
  have lx := hx.room.lt
  go_enter Try.func44, Try.ntmps44
  go_wp2_with fail
  refine (newInt_z 0 w (by decide) (by decide)).mono ?_
  rintro e w1 ⟨g0, hg0, rfl, b1, i1⟩
  go_wp2_with fail
  refine (bitLen_any gx X w1 (hx.below b1)).mono ?_
  rintro e w2 ⟨L, hL, hB, rfl, hw⟩
  subst hw
  have hL64 : L ≤ 64 := by
    rcases Nat.lt_or_ge 64 L with c | c
    · have g := hB.ge (by omega)
      have := Nat.pow_le_pow_right (show 0 < 2 by decide) (show 64 ≤ L - 1 by omega)
      omega
    · exact c
  have HS := Lib.hid (sqInv_start (X := X) (L := L) (by have := hB.lt; simpa using this) hL64)
  clear hB
  go_wp2_with fail
  go_loopw [5, 6] (fun pr ik wr => ∃ gr r k : Nat, w.heap.size ≤ gr ∧ pr = .pointer (some ⟨gr, 0, none⟩) ∧ ik = .int .i64 ((k : Int) - 1) ∧ k ≤ 36 ∧ SqInv X r k ∧ IntAt wr gr r ∧ Below w.heap.size w wr) (fun _ ik _ => (intOf ik + 1).toNat)
  case atStart => exact ⟨g0, 0, L / 2 + 2, hg0, rfl, by congr 1; omega, by omega, HS.out, i1, b1⟩
  case round =>
    obtain ⟨gr, r, k, hgr, rfl, rfl, hk, hI, hr, hbw⟩ := hrel
    have HI := Lib.hid hI
    clear hI
    by_cases h0 : k = 0
    · subst h0
      go_wp2_with fail
      refine (set_int gz gr r _ (by omega) (hz.below hbw) hr).mono ?_
      rintro e w3 ⟨rfl, g3, i3⟩
      go_wp2
      go_ret
      exact ⟨rfl, grown_trans (grown_of_below hbw) g3, r, sqInv_end HI.out hX, i3⟩
    · obtain ⟨j, rfl⟩ : ∃ j, k = j + 1 := ⟨k - 1, by omega⟩
      have ek : ((j + 1 : Nat) : Int) - 1 = (j : Int) := by omega
      rw [ek]
      have hj0 : (0 : Int) ≤ (j : Int) := by omega
      have lr := hr.room.lt
      have htop := HI.out.top
      have hpj : 2 ^ j ≤ 2 ^ (j + 1) := Nat.pow_le_pow_right (by decide) (by omega)
      have hT : r + 2 ^ j ≤ 68719476736 := by omega
      have hsq := Nat.mul_le_mul hT hT
      have A0 := (Below.refl wr.heap.size wr).alloc (Nat.le_refl _) (.cells #[.bool false, .slice none 0 0] 32)
      have hx0 := hx.below hbw
      have fit1 : Fits (r + 2 ^ j) := Fits.of (k := 2) (by omega) (by decide)
      have hbit := sqInv_bit HI.out
      obtain ⟨T, hTe⟩ : ∃ T, r + 2 ^ j = T := ⟨_, rfl⟩
      have hsb := setBit_any wr.heap.size gr r j _ (room_new wr) (hr.below A0) hbit (by omega) fit1
      rw [hTe] at hsb hT hsq
      have HT := Lib.hid hTe
      clear hTe fit1 hbit htop hpj
      go_wp2_with fail
      refine hsb.mono ?_
      rintro e w3 ⟨rfl, g3, i3⟩
      have b3 : Below wr.heap.size wr w3 := below_of_grown A0 g3 (Nat.le_refl _)
      have B3 := below_of hbw b3 hbw.size
      have l3 := i3.room.lt
      have s3 := b3.size
      have A3 := (Below.refl w3.heap.size w3).alloc (Nat.le_refl _) (.cells #[.bool false, .slice none 0 0] 32)
      go_wp2_with fail
      refine (mul_int w3.heap.size wr.heap.size wr.heap.size T T _ (room_new w3) (i3.below A3) (i3.below A3) (Fits.of (k := 3) (by rw [Int.natAbs_mul]; simp; omega) (by decide))).mono ?_
      rintro e w4 ⟨rfl, g4, i4⟩
      have b4 : Below w3.heap.size w3 w4 := below_of_grown A3 g4 (Nat.le_refl _)
      have B4 := below_of B3 b4 B3.size
      have s4 := hbw.size
      go_wp2_with fail
      refine (cmpAbs_any w3.heap.size gx _ _ w4 i4 (hx.below B4)).mono ?_
      rintro e w5 ⟨rfl, q, rfl⟩
      rw [show ((T : Int) * (T : Int)).natAbs = T * T by rw [Int.natAbs_mul]; simp, show ((X : Nat) : Int).natAbs = X by omega]
      have B5 : Below w.heap.size w (w4.drewN q) := below_drewN B4 q
      rcases Nat.lt_or_ge X (T * T) with c | c
      · have hc : cmpI ((T * T : Nat) : Int) (X : Int) = 1 := cmpI_gt c
        rw [hc]
        go_wp2_with fail
        go_roundw
        case rel => exact ⟨gr, r, j, hgr, rfl, by go_num, by omega, sqInv_no HI.out (by rw [HT.out]; exact c), ((hr.below b3).below b4).drewN q, B5⟩
        case measure => simp [intOf]
      · have hc : decide (cmpI ((T * T : Nat) : Int) (X : Int) ≤ 0) = true := by
          rw [decide_eq_true_iff]; unfold cmpI; split
          · omega
          · rw [if_neg (by omega)]; omega
        generalize cmpI ((T * T : Nat) : Int) (X : Int) = C at hc ⊢
        go_wp2_with fail
        go_roundw
        case rel => exact ⟨wr.heap.size, T, j, hbw.size, rfl, by go_num, by omega, HT.out ▸ sqInv_yes HI.out (by rw [HT.out]; exact c), (i3.below b4).drewN q, B5⟩
        case measure => simp [intOf]
end Go.Proofs.Ytfopcipapphogaa
