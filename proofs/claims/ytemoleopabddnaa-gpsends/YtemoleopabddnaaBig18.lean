/- The reference's QuoRem below 2^64: a contract. -/
import Derived.Test.YtemoleopabddnaaBig13a
namespace Go.Proofs.Ytemoleopabddnaa
open Go.RowKit


theorem sg_tdiv (s : Bool) (X Y : Nat) : (sg s X).tdiv Y = sg s (X / Y) := by
  cases s
  · simp [sg]
  · simp [sg, Int.neg_tdiv]
theorem sg_tmod (s : Bool) (X Y : Nat) : (sg s X).tmod Y = sg s (X % Y) := by
  cases s
  · simp only [sg]; exact (Int.ofNat_tmod X Y).symm
  · simp only [sg, if_true, Int.neg_tmod]; exact congrArg _ (Int.ofNat_tmod X Y).symm

set_option maxRecDepth 1000000 in
set_option maxHeartbeats 4000000 in
/-- QuoRem of a number below 2^64 either way, by one that is above 0 and no greater. -/
theorem quo_small (gz gx gy gr : Nat) (x : Int) (Y : Nat) (w : World) (hz : Room w gz) (hr : Room w gr) (hx : IntAt w gx x) (hy : IntAt w gy Y) (n2 : gz ≠ gr) (h0 : 0 < Y) (hle : Y ≤ x.natAbs) (hsm : x.natAbs < 18446744073709551616) :
    Calls Try.prog 60 #[.pointer (some ⟨gz, 0, none⟩), .pointer (some ⟨gx, 0, none⟩), .pointer (some ⟨gy, 0, none⟩), .pointer (some ⟨gr, 0, none⟩)] w fun e w' =>
      e = .returned (.tuple #[.pointer (some ⟨gz, 0, none⟩), .pointer (some ⟨gr, 0, none⟩)]) ∧ Kept2 w w' gz gr ∧ IntAt w' gz (x.tdiv Y) ∧ IntAt w' gr (x.tmod Y) := by
  have hcb : decide (cmpI (x.natAbs : Int) (((Y : Nat) : Int).natAbs : Int) < 0) = false := by
    rw [decide_eq_false_iff_not]; unfold cmpI; split
    · omega
    · split <;> omega
  have hx' := hx
  obtain ⟨s, A, n, c, f, hg, a1, a2, hd, hs, ht, hz1, rfl⟩ := hx
  rw [sg_abs] at hle hsm
  rw [sg_tdiv, sg_tmod]
  have hn2 : n ≤ 2 := len_le (k := 2) ht hsm
  have c0 : w.cell? ⟨gx, 0, none⟩ = some (.bool s) := hg.cell (by decide)
  have c1 : w.cell? ⟨gx, 1, none⟩ = some (.slice A n c) := hg.cell (by decide)
  have d0 : w.cell? ⟨gy, 0, none⟩ = some (.bool false) := hy.plus (by omega)
  have hl3 : decide ((n : Int) < 3) = true := by rw [decide_eq_true_iff]; omega
  obtain ⟨X, hX⟩ : ∃ X, val n f = X := ⟨_, rfl⟩
  have hu : ∀ q, Calls Try.prog 57 #[.pointer (some ⟨gx, 0, none⟩)] (w.drewN q) fun e w' => e = .returned (.int .u64 (X : Nat)) ∧ w.drewN q = w' := fun q => hX ▸ uint64_sgn gx s A n c f (w.drewN q) hg hd hs hn2
  have hv : ∀ q, Calls Try.prog 57 #[.pointer (some ⟨gy, 0, none⟩)] (w.drewN q) fun e w' => e = .returned (.int .u64 (Y : Nat)) ∧ w.drewN q = w' := fun q => by
    exact uint64_small gy Y (w.drewN q) (hy.drewN q) (by omega)
  rw [hX] at hle hsm ⊢
  have q1 : X / Y ≤ X := Nat.div_le_self X Y
  have q2 : X % Y < Y := Nat.mod_lt X h0
  obtain ⟨Q, hQ⟩ : ∃ Q, X / Y = Q := ⟨_, rfl⟩
  obtain ⟨R, hR⟩ : ∃ R, X % Y = R := ⟨_, rfl⟩
  have eq1 : (X : Int) / (Y : Int) = (Q : Int) := by rw [← hQ]; push_cast; rfl
  have eq2 : (X : Int) % (Y : Int) = (R : Int) := by rw [← hR]; push_cast; rfl
  have hyz : ((Y : Int) == 0) = false := by simp; omega
  rw [hQ] at q1 ⊢
  rw [hR] at q2 ⊢
  have HQ := Lib.hid hQ
  have HR := Lib.hid hR
  clear hQ hR
  go_enter Try.func60, Try.ntmps60
  go_wp2_with fail
  refine (cmpAbs_any gx gy _ _ _ hx' hy).mono ?_
  rintro e w1 ⟨rfl, k, rfl⟩
  generalize cmpI ((sg s (val n f)).natAbs : Int) (((Y : Nat) : Int).natAbs : Int) = C at hcb ⊢
  go_wp2_with fail
  go_quiet (fail)
  go_wp2_with fail
  refine (hu _).mono ?_
  rintro e w1 ⟨rfl, rfl⟩
  go_wp2_with fail
  refine (hv _).mono ?_
  rintro e w1 ⟨rfl, rfl⟩
  go_wp2_with fail
  refine (setU_any gz Q _ (hz.drewN _) (by omega)).mono ?_
  rintro e w2 ⟨rfl, g2, i2⟩
  have hr2 := (hr.drewN _).only g2 (fun e => n2 e.symm)
  go_wp2_with fail
  refine (setU_any gr R w2 hr2 (by omega)).mono ?_
  rintro e w3 ⟨rfl, g3, i3⟩
  have i2' := i2.only hr2 g3 n2
  obtain ⟨A1, n1, k1, f1, r1, l1, l1', l1'', e1, s1, t1, v1⟩ := i2'.nat
  obtain ⟨A2, m2, k2, f2, r2, l2, l2', l2'', e2, s2, t2, v2⟩ := i3.nat
  have p0 := r1.cell (i := 0) (by decide)
  have p1 := r1.frozen 0
  have o0 := r2.cell (i := 0) (by decide)
  have o1 := r2.frozen 0
  have fz := i2'.room.lt
  have fr := i3.room.lt
  go_wp2_with fail
  have hgz4 := two_set0 r1 (.bool s)
  have hgr4 := r2.setOther (a := ⟨gz, 0, none⟩) (fun e => n2 e.symm) (.bool s)
  have g4 : w3.grownBy (w3.setCell ⟨gz, 0, none⟩ (.bool s)) (some gz) := grown_here (World.grownBy.refl w3 _) 0 _
  have hgz5 := hgz4.setOther (a := ⟨gr, 0, none⟩) n2 (.bool s)
  have hgr5 := two_set0 hgr4 (.bool s)
  have g5 : (w3.setCell ⟨gz, 0, none⟩ (.bool s)).grownBy ((w3.setCell ⟨gz, 0, none⟩ (.bool s)).setCell ⟨gr, 0, none⟩ (.bool s)) (some gr) := grown_here (World.grownBy.refl _ _) 0 _
  have e15 := (e1.only r1 g4).only hgr4 g5
  have e25 := (e2.only r1 g4).only hgr4 g5
  refine (trim_raw gz s A1 n1 k1 f1 _ hgz5 l1 l1' e15 s1 (by rw [← v1]; exact Fits.of (k := 2) (by omega) (by decide))).mono ?_
  rintro e w6 ⟨rfl, g6, i6⟩
  have hgr6 := hgr5.of_block (g6.block gr hgr5.lt (by simp; exact fun e => n2 e.symm))
  have e26 := e25.only hgz5 g6
  go_wp2_with fail
  refine (trim_raw gr s A2 m2 k2 f2 _ hgr6 l2 l2' e26 s2 (by rw [← v2]; exact Fits.of (k := 2) (by omega) (by decide))).mono ?_
  rintro e w7 ⟨rfl, g7, i7⟩
  go_wp2_with fail
  rw [← v1] at i6
  rw [← v2] at i7
  exact bodyPost_ret (v := .tuple #[.pointer (some ⟨gz, 0, none⟩), .pointer (some ⟨gr, 0, none⟩)]) (by simp [results, Try.results60, go_sem]) rfl
    ⟨rfl, (((((((Kept2.refl w gz gr).drewN _).left g2).right g3).left g4).right g5).left g6).right g7, i6.only ⟨_, hgr6⟩ g7 n2, i7⟩
end Go.Proofs.Ytemoleopabddnaa
