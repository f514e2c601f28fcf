/- BucketBound: the walk. -/
import Derived.Test.YtkcfhjbppnchoaaBkBoundM
namespace Go.Proofs.Ytkcfhjbppnchoaa
open Go.RowKit Go.Maps

theorem bound_at {num den burst : Int} (hr : rate num den burst = true) {xs : List (Int × Int)} (hf : fine (Bk.full num den burst) xs = true) {i j : Nat} (hij : i ≤ j) {ti ni tj nj : Int} (hx : xs[i]? = some (ti, ni)) (hy : xs[j]? = some (tj, nj)) :
    ∃ u, (run (Bk.full num den burst) xs).1[j]? = some u ∧ gotS (run (Bk.full num den burst) xs).1 xs i (j + 1 - i) = gotS (run (Bk.full num den burst) xs).1 xs i (j - i) + (if u = true then nj else 0) ∧
      0 ≤ gotS (run (Bk.full num den burst) xs).1 xs i (j - i) ∧ gotS (run (Bk.full num den burst) xs).1 xs i (j - i) ≤ 1048576 * ((j - i : Nat) : Int) ∧ 0 ≤ nj ∧ nj ≤ 1048576 ∧ ti ≤ tj ∧ 0 ≤ ti ∧ tj ≤ 1099511627776 ∧
      gotS (run (Bk.full num den burst) xs).1 xs i (j + 1 - i) * den ≤ burst * den + num * (tj - ti) := by
  have hok := full_ok hr
  obtain ⟨d, rfl⟩ : ∃ d, j = i + d := ⟨j - i, by omega⟩
  have h1 := run_get (b := Bk.full num den burst) hy
  obtain ⟨k1, k2, k3, _, _, _, _, _, _, k4, _, _, k5⟩ := step_one hok hf hy
  have h2 := bound_all hok hf hx hy
  have h3 := gotS_bound hok hf i d
  obtain ⟨_, _, _, k6, _⟩ := step_one hok hf hx
  have k7 := (fine_ok hok (fine_take hf i)).t0
  rw [show i + d + 1 - i = d + 1 by omega, show i + d - i = d by omega]
  refine ⟨_, h1, ?_, h3.1, h3.2, k1, k2, h2.2, ?_, k3, ?_⟩
  · show gotS _ _ i d + got _ _ (i + d) = _
    rw [k5, h1]
    simp
  · dsimp only at k6
    omega
  · have h4 := h2.1
    have e1 : (Bk.full num den burst).den = den := rfl
    have e2 : (Bk.full num den burst).burst = burst := rfl
    have e3 : (Bk.full num den burst).num = num := rfl
    rw [e1, e2, e3] at h4
    dsimp only at h4
    omega

theorem played_no {num den burst : Int} {xs : List (Int × Int)} (h : (played num den burst xs).2.2 ≠ 0) : (played num den burst xs).1 = [] := by
  revert h
  unfold played
  (repeat' split) <;> (intro h; first | rfl | (exact absurd rfl h))

set_option maxRecDepth 100000 in
set_option maxHeartbeats 8000000 in
theorem bound_law {w : World} {A : Option Addr} {xs : List (Int × Int)} (hP : ShotsIn w A xs) (cap : Nat) (num den burst : Int) :
    Calls Try.prog 6 #[.int .i64 num, .int .i64 den, .int .i64 burst, .slice A xs.length cap] w fun e w' => e = .returned (.bool true) ∧ Below w.heap.size w w' := by
  have HAL := Lib.hid (fun W => alive9_any W)
  have HSH := Lib.hid (fun W (hW : Below w.heap.size w W) => hP.below hW)
  have HPL := Lib.hid (fun W (hW : Below w.heap.size w W) => play_any (hP.below hW) cap num den burst)
  have hlen := hP.len
  obtain ⟨n, hn⟩ : ∃ n, xs.length = n := ⟨_, rfl⟩
  have HN := Lib.hid hn
  rw [hn] at hlen HPL ⊢
  clear hP hn
  by_cases he : (played num den burst xs).2.2 = 0
  · obtain ⟨hr, hs, hf, hp⟩ := played_ok he
    rw [hp] at HPL
    have HL : Hid ((run (Bk.full num den burst) xs).1.length = n) := Lib.hid ((run_length _ _).trans HN.out)
    have HBA := Lib.hid (fun i j (hij : i ≤ j) ti ni tj nj hx hy => bound_at hr hf (i := i) (j := j) hij (ti := ti) (ni := ni) (tj := tj) (nj := nj) hx hy)
    have hok := full_ok hr
    have hm := hok.most
    have hm' : 0 ≤ burst * den ∧ burst * den ≤ 1099511627776 := hm
    have hn0 : 0 ≤ num := hok.n0
    have hn1 : num ≤ 1048576 := hok.n1
    have hd0 : 1 ≤ den := hok.d0
    have hd1 : den ≤ 1048576 := hok.d1
    have HM := Lib.hid (And.intro hm' (And.intro hn0 (And.intro hn1 (And.intro hd0 hd1))))
    clear he hr hs hf hp hok hm hm' hn0 hn1 hd0 hd1
    generalize run (Bk.full num den burst) xs = RU at *
    obtain ⟨l, bt⟩ := RU
    dsimp only at HPL HL HBA
    unfold Played at HPL
    dsimp only at HPL
    rw [HL.out] at HPL
    unfold Bk.cells at HPL
    go_enter Try.func6, Try.ntmps6
    go_wp2_with fail
    refine (HAL.out _).mono ?_
    rintro e m1 ⟨rfl, hb⟩
    have HB1 := Lib.hid hb
    clear hb HAL
    go_wp2_with fail
    refine (HPL.out _ HB1.out).mono ?_
    rintro e m2 ⟨R, cR, rfl, _, hR, hb⟩
    have hl := laidB_at m2 bt
    have HX := Lib.hid (And.intro ((HB1.out.trans (hb.mono HB1.out.size)).trans (hl.2.mono (Nat.le_trans HB1.out.size hb.size))) (hR.below hl.2))
    clear hb hl hR HB1 HPL
    go_upto_region 4 with fail
    change Code.wp _ _ _ _ (laidB m2 bt)
    generalize laidB m2 bt = m3 at *
    generalize m2.heap.size = g at *
    by_cases h60 : 60 < n
    · clear HBA HM HSH HL HN
      go_wp2_with fail
      go_ret
      exact ⟨rfl, HX.out.1⟩
    · have HS3 := Lib.hid (HSH.out _ HX.out.1)
      clear HSH
      go_upto_region 8 with fail
      go_wp2_with fail
      go_loopg [48] n (fun k c wr => ∃ i t : Nat, c = .int .i64 (i : Int) ∧ i + k = n ∧ wr = m3.drewN t)
      case atStart => exact ⟨0, 0, rfl, by omega, rfl⟩
      case round =>
        obtain ⟨i, t, rfl, hik, rfl⟩ := hrel
        cases gk with
        | zero =>
          obtain rfl : i = n := by omega
          have HD := Lib.hid (below_drewN HX.out.1 t)
          clear HBA HM HS3 HL HN HX
          go_wp2_with fail
          go_ret
          exact ⟨rfl, HD.out⟩
        | succ k =>
          have hi : i < n := by omega
          have i1 : (i : Int) < (n : Int) := by omega
          obtain ⟨b, off, ti, ni, rfl, hxi, ai, _, _⟩ := HS3.out.next (i := i) (by have := HN.out; omega)
          have HXI := Lib.hid hxi
          clear hxi
          go_wp2_with fail
          go_loopg [13, 14] (n - i) (fun k s c wr => ∃ j t : Nat, c = .int .i64 (j : Int) ∧ i ≤ j ∧ j + k = n ∧ s = .int .i64 (gotS l xs i (j - i)) ∧ wr = m3.drewN t)
          case atStart => exact ⟨i, t, rfl, Nat.le_refl _, by omega, by rw [Nat.sub_self]; rfl, rfl⟩
          case round =>
            obtain ⟨j, t2, rfl, hij, hjk, rfl, rfl⟩ := hrel
            cases gk with
            | zero =>
              obtain rfl : j = n := by omega
              generalize gotS l xs i (j - i) = SS at *
              go_wp2_with fail
              go_roundg k
              case measure => omega
              case rel => exact ⟨i + 1, t2, by go_num, by omega, rfl⟩
            | succ k2 =>
              have hj : j < n := by omega
              have j1 : (j : Int) < (n : Int) := by omega
              obtain ⟨b', off', tj, nj, hbb, hxj, aj, bj, _⟩ := HS3.out.next (i := j) (by have := HN.out; omega)
              injection hbb with hbb
              injection hbb with hb1 hb2
              subst hb1 hb2
              obtain ⟨u, hu, hS, s0, s1, n0, n1, tt, ti0, tj1, hbd⟩ := HBA.out i j hij ti ni tj nj HXI.out hxj
              obtain ⟨b2, o2, u', rfl, hu', au, _⟩ := HX.out.2.next (i := j) (by have := HL.out; omega)
              obtain rfl : u = u' := by rw [hu] at hu'; injection hu'
              obtain ⟨⟨hm0, hm1⟩, hn0, hn1, hd0, hd1⟩ := HM.out
              obtain ⟨G, e1, hG⟩ : ∃ G, IntKind.i64.wrap (tj - ti) = G ∧ tj - ti = G := ⟨_, wrap_i64 (by omega) (by omega), rfl⟩
              rw [hG] at hbd
              have hji : ((j - i : Nat) : Int) ≤ 60 := by omega
              generalize gotS l xs i (j - i) = S0 at *
              obtain ⟨S1, hS1⟩ : ∃ S1, gotS l xs i (j + 1 - i) = S1 := ⟨_, rfl⟩
              rw [hS1] at hS hbd
              have s2 : 0 ≤ S1 ∧ S1 ≤ 64 * 1048576 := by rw [hS]; split <;> omega
              obtain ⟨AA, e2, hA⟩ : ∃ AA, wrap64 (S1 * den) = AA ∧ S1 * den = AA := ⟨_, by have := mul_le_of s2.1 s2.2 (show 0 ≤ den by omega) hd1; exact w64 (by omega) (by omega), rfl⟩
              obtain ⟨M, e3, hM⟩ : ∃ M, wrap64 (burst * den) = M ∧ burst * den = M := ⟨_, w64 (by omega) (by omega), rfl⟩
              have HS1 : Hid (Value.int .i64 S1 = .int .i64 (gotS l xs i (j + 1 - i))) := Lib.hid (by rw [hS1])
              rw [hA, hM] at hbd
              rw [hM] at hm0 hm1
              by_cases hg : G < 1048576
              · have hpp := mul_le_of hn0 hn1 (show 0 ≤ G by omega) (show G ≤ 1048576 by omega)
                obtain ⟨P, e4, hP⟩ : ∃ P, wrap64 (num * G) = P ∧ num * G = P := ⟨_, w64 (by omega) (by omega), rfl⟩
                rw [hP] at hbd hpp
                obtain ⟨Q, e5, hQ⟩ : ∃ Q, wrap64 (M + P) = Q ∧ M + P = Q := ⟨_, w64 (by omega) (by omega), rfl⟩
                have hcmp : ¬ Q < AA := by omega
                cases u with
                | true =>
                  have e6 : wrap64 (S0 + nj) = S1 := by rw [w64 (by omega) (by omega), hS]; rfl
                  clear hu hu' hxj hS s0 s1 n0 n1 tt ti0 tj1 hbd hm0 hm1 hn0 hn1 hd0 hd1 hG hji hS1 s2 hA hM hP hpp hQ
                  go_wp2_with fail
                  go_quiet (fail)
                  go_wp2_with fail
                  go_roundg k2
                  case measure => omega
                  case rel => exact ⟨j + 1, t2 + nq, by go_num, by omega, by omega, HS1.out, rfl⟩
                | false =>
                  have e6 : S1 = S0 := by rw [hS]; simp
                  subst e6
                  clear hu hu' hxj hS s0 s1 n0 n1 tt ti0 tj1 hbd hm0 hm1 hn0 hn1 hd0 hd1 hG hji hS1 s2 hA hM hP hpp hQ
                  go_wp2_with fail
                  go_quiet (fail)
                  go_wp2_with fail
                  go_roundg k2
                  case measure => omega
                  case rel => exact ⟨j + 1, t2 + nq, by go_num, by omega, by omega, HS1.out, rfl⟩
              · have hg' : decide (G < 1048576) = false := decide_eq_false hg
                cases u with
                | true =>
                  have e6 : wrap64 (S0 + nj) = S1 := by rw [w64 (by omega) (by omega), hS]; rfl
                  clear hu hu' hxj hS s0 s1 n0 n1 tt ti0 tj1 hbd hm0 hm1 hn0 hn1 hd0 hd1 hG hji hS1 s2 hA hM hg
                  go_wp2_with fail
                  go_quiet (fail)
                  go_wp2_with fail
                  go_roundg k2
                  case measure => omega
                  case rel => exact ⟨j + 1, t2 + nq, by go_num, by omega, by omega, HS1.out, rfl⟩
                | false =>
                  have e6 : S1 = S0 := by rw [hS]; simp
                  subst e6
                  clear hu hu' hxj hS s0 s1 n0 n1 tt ti0 tj1 hbd hm0 hm1 hn0 hn1 hd0 hd1 hG hji hS1 s2 hA hM hg
                  go_wp2_with fail
                  go_quiet (fail)
                  go_wp2_with fail
                  go_roundg k2
                  case measure => omega
                  case rel => exact ⟨j + 1, t2 + nq, by go_num, by omega, by omega, HS1.out, rfl⟩
  · have hz := played_no he
    generalize played num den burst xs = PL at *
    obtain ⟨l, bt, er⟩ := PL
    dsimp only at he hz
    subst hz
    unfold Played at HPL
    dsimp only [List.length_nil] at HPL
    unfold Bk.cells at HPL
    have he' : (er != 0) = true := by simpa using he
    clear HSH HN he
    go_enter Try.func6, Try.ntmps6
    go_wp2_with fail
    refine (HAL.out _).mono ?_
    rintro e m1 ⟨rfl, hb⟩
    have HB1 := Lib.hid hb
    clear hb HAL
    go_wp2_with fail
    refine (HPL.out _ HB1.out).mono ?_
    rintro e m2 ⟨R, cR, rfl, _, hR, hb⟩
    have hl := laidB_at m2 bt
    have HX := Lib.hid ((HB1.out.trans (hb.mono HB1.out.size)).trans (hl.2.mono (Nat.le_trans HB1.out.size hb.size)))
    clear hb hl hR HB1 HPL
    go_upto_region 4 with fail
    change Code.wp _ _ _ _ (laidB m2 bt)
    generalize laidB m2 bt = m3 at *
    generalize m2.heap.size = g at *
    go_wp2_with fail
    go_ret
    exact ⟨by simp, HX.out⟩
theorem bound_any {w : World} {A : Option Addr} {xs : List (Int × Int)} {n : Nat} (hP : ShotsIn w A xs) (hn : xs.length = n) (cap : Nat) (num den burst : Int) :
    Calls Try.prog 6 #[.int .i64 num, .int .i64 den, .int .i64 burst, .slice A n cap] w fun e w' => e = .returned (.bool true) ∧ Below w.heap.size w w' := by
  subst hn
  exact bound_law hP cap num den burst
end Go.Proofs.Ytkcfhjbppnchoaa
