/- No more is green than was committed: the walk. -/
import Derived.Test.YtnbjcahhmibmdaaMt7
import Derived.Test.YtnbjcahhmibmdaaMtBoundM
namespace Go.Proofs.Ytnbjcahhmibmdaa
open Go.RowKit Go.Maps

set_option maxRecDepth 100000 in
set_option maxHeartbeats 8000000 in
theorem bound_no {w : World} {A : Option Addr} {xs : List (Int × Int)} {n : Nat} (hP : ShotsIn w A xs) (hn : xs.length = n) (cap : Nat) (r b e : Int) (he : (played r b e xs).2.2 ≠ 0) :
    Calls Try.prog 5 #[.int .i64 r, .int .i64 b, .int .i64 e, .slice A n cap] w fun e w' => e = .returned (.bool true) ∧ Below w.heap.size w w' := by
  have HAL := Lib.hid (fun W => alive10_any W)
  have HPL := Lib.hid (fun W (hW : Below w.heap.size w W) => play_any (hP.below hW) cap r b e)
  rw [hn] at HPL
  have hz := played_no he
  clear hP hn
  generalize played r b e xs = PL at *
  obtain ⟨l, bt, er⟩ := PL
  dsimp only at he hz
  subst hz
  unfold Played at HPL
  dsimp only [List.length_nil] at HPL
  unfold Mt.cells at HPL
  have he' : (er != 0) = true := by simpa using he
  clear he
  go_enter Try.func5, Try.ntmps5
  go_wp2_with fail
  refine (HAL.out _).mono ?_
  rintro e1 m1 ⟨rfl, hb⟩
  have HB1 := Lib.hid hb
  clear hb HAL
  go_wp2_with fail
  refine (HPL.out _ HB1.out).mono ?_
  rintro e1 m2 ⟨R, cR, rfl, _, hR, hb⟩
  have hl := laidM_at m2 bt
  have HX := Lib.hid ((HB1.out.trans (hb.mono HB1.out.size)).trans (hl.2.mono (Nat.le_trans HB1.out.size hb.size)))
  clear hb hl hR HB1 HPL
  go_upto_region 4 with fail
  change Code.wp _ _ _ _ (laidM m2 bt)
  generalize laidM m2 bt = m3 at *
  generalize m2.heap.size = g at *
  go_wp2_with fail
  go_ret
  exact ⟨by simp, HX.out⟩

set_option maxRecDepth 100000 in
set_option maxHeartbeats 8000000 in
theorem bound_yes {w : World} {A : Option Addr} {xs : List (Int × Int)} {n : Nat} (hP : ShotsIn w A xs) (hn : xs.length = n) (cap : Nat) (r b e : Int) (he : (played r b e xs).2.2 = 0) :
    Calls Try.prog 5 #[.int .i64 r, .int .i64 b, .int .i64 e, .slice A n cap] w fun e w' => e = .returned (.bool true) ∧ Below w.heap.size w w' := by
  have HAL := Lib.hid (fun W => alive10_any W)
  have HSH := Lib.hid (fun W (hW : Below w.heap.size w W) => hP.below hW)
  have HPL := Lib.hid (fun W (hW : Below w.heap.size w W) => play_any (hP.below hW) cap r b e)
  have hlen := hP.len
  have HN := Lib.hid hn
  rw [hn] at hlen HPL
  clear hP hn
  obtain ⟨hok, hf, hp⟩ := played_ok he
  rw [hp] at HPL
  have HL : Hid ((run (Mt.full r b e) xs).1.length = n) := Lib.hid ((run_length _ _).trans HN.out)
  have HBA := Lib.hid (fun i j (hij : i ≤ j) ti ni tj nj hx hy => bound_at hok hf (i := i) (j := j) hij (ti := ti) (ni := ni) (tj := tj) (nj := nj) hx hy)
  have hr0 : 0 ≤ r := hok.r0
  have hr1 : r ≤ 1048576 := hok.r1
  have hb0 : 0 ≤ b := hok.b0
  have hb1 : b ≤ 1048576 := hok.b1
  have he0 : 0 ≤ e := hok.e0
  have he1 : e ≤ 1048576 := hok.e1
  have HM := Lib.hid (And.intro hr0 (And.intro hr1 (And.intro hb0 (And.intro hb1 (And.intro he0 he1)))))
  clear he hf hp hok hr0 hr1 hb0 hb1 he0 he1
  generalize run (Mt.full r b e) xs = RU at *
  obtain ⟨l, bt⟩ := RU
  dsimp only at HPL HL HBA
  unfold Played at HPL
  dsimp only at HPL
  rw [HL.out] at HPL
  unfold Mt.cells at HPL
  go_enter Try.func5, Try.ntmps5
  go_wp2_with fail
  refine (HAL.out _).mono ?_
  rintro e1 m1 ⟨rfl, hb⟩
  have HB1 := Lib.hid hb
  clear hb HAL
  go_wp2_with fail
  refine (HPL.out _ HB1.out).mono ?_
  rintro e1 m2 ⟨R, cR, rfl, _, hR, hb⟩
  have hl := laidM_at m2 bt
  have HX := Lib.hid (And.intro ((HB1.out.trans (hb.mono HB1.out.size)).trans (hl.2.mono (Nat.le_trans HB1.out.size hb.size))) (hR.below hl.2))
  clear hb hl hR HB1 HPL
  go_upto_region 4 with fail
  change Code.wp _ _ _ _ (laidM m2 bt)
  generalize laidM m2 bt = m3 at *
  generalize m2.heap.size = g at *
  by_cases h60 : 60 < n
  · clear HBA HM HSH HL HN
    go_wp2_with fail
    go_ret
    exact ⟨rfl, HX.out.1⟩
  · have HS3 := Lib.hid (HSH.out _ HX.out.1)
    clear HSH
    go_upto_region 8 with fail
    go_wp2_with fail
    go_loopg [49] n (fun k c wr => ∃ i t : Nat, c = .int .i64 (i : Int) ∧ i + k = n ∧ wr = m3.drewN t)
    case atStart => exact ⟨0, 0, rfl, by omega, rfl⟩
    case round =>
      obtain ⟨i, t, rfl, hik, rfl⟩ := hrel
      cases gk with
      | zero =>
        obtain rfl : i = n := by omega
        have HD := Lib.hid (below_drewN HX.out.1 t)
        clear HBA HM HS3 HL HN HX
        go_wp2_with fail
        go_ret
        exact ⟨rfl, HD.out⟩
      | succ k =>
        have hi : i < n := by omega
        have i1 : (i : Int) < (n : Int) := by omega
        obtain ⟨b0, off, ti, ni, rfl, hxi, ai, _, _⟩ := HS3.out.next (i := i) (by have := HN.out; omega)
        have HXI := Lib.hid hxi
        clear hxi
        go_wp2_with fail
        go_loopg [13, 14, 15] (n - i) (fun k s1 s2 c wr => ∃ j t : Nat, c = .int .i64 (j : Int) ∧ i ≤ j ∧ j + k = n ∧ s1 = .int .i64 (gotS gr l xs i (j - i)) ∧ s2 = .int .i64 (gotS ye l xs i (j - i)) ∧ wr = m3.drewN t)
        case atStart => exact ⟨i, t, rfl, Nat.le_refl _, by omega, by rw [Nat.sub_self]; rfl, by rw [Nat.sub_self]; rfl, rfl⟩
        case round =>
          obtain ⟨j, t2, rfl, hij, hjk, rfl, rfl, rfl⟩ := hrel
          cases gk with
          | zero =>
            obtain rfl : j = n := by omega
            generalize gotS gr l xs i (j - i) = SG at *
            generalize gotS ye l xs i (j - i) = SY at *
            go_wp2_with fail
            go_roundg k
            case measure => omega
            case rel => exact ⟨i + 1, t2, by go_num, by omega, rfl⟩
          | succ k2 =>
            have hj : j < n := by omega
            have j1 : (j : Int) < (n : Int) := by omega
            obtain ⟨b', off', tj, nj, hbb, hxj, aj, bj, _⟩ := HS3.out.next (i := j) (by have := HN.out; omega)
            injection hbb with hbb
            injection hbb with hb1 hb2
            subst hb1 hb2
            obtain ⟨c, ⟨hu, hcs, n0, n1, tt, ti0, tj1, g0, g1, y0, y1, gs, ys, gb, yb⟩⟩ := HBA.out i j hij ti ni tj nj HXI.out hxj
            obtain ⟨b2, o2, c', rfl, hu', au, _⟩ := HX.out.2.next (i := j) (by have := HL.out; omega)
            obtain rfl : c = c' := by rw [hu] at hu'; injection hu'
            obtain ⟨hr0, hr1, hb0, hb1, he0, he1⟩ := HM.out
            obtain ⟨G, e1, hG⟩ : ∃ G, IntKind.i64.wrap (tj - ti) = G ∧ tj - ti = G := ⟨_, wrap_i64 (by omega) (by omega), rfl⟩
            rw [hG] at gb yb
            have hji : ((j - i : Nat) : Int) ≤ 60 := by omega
            generalize gotS gr l xs i (j - i) = SG at *
            generalize gotS ye l xs i (j - i) = SY at *
            obtain ⟨TG, hTG⟩ : ∃ T, gotS gr l xs i (j + 1 - i) = T := ⟨_, rfl⟩
            obtain ⟨TY, hTY⟩ : ∃ T, gotS ye l xs i (j + 1 - i) = T := ⟨_, rfl⟩
            rw [hTG] at gs gb
            rw [hTY] at ys yb
            have HS1 : Hid (Value.int .i64 TG = .int .i64 (gotS gr l xs i (j + 1 - i))) := Lib.hid (by rw [hTG])
            have HS2 : Hid (Value.int .i64 TY = .int .i64 (gotS ye l xs i (j + 1 - i))) := Lib.hid (by rw [hTY])
            obtain ⟨E2, e2, hE2⟩ : ∃ E, wrap64 (b + e) = E ∧ b + e = E := ⟨_, w64 (by omega) (by omega), rfl⟩
            rw [hE2] at yb
            rcases hcs with rfl | rfl | rfl
            · have e6 : wrap64 (SG + nj) = TG := by rw [w64 (by omega) (by omega), gs]; simp [gr]
              have e7 : wrap64 (SY + nj) = TY := by rw [w64 (by omega) (by omega), ys]; simp [ye]
              by_cases hg : G < 1048576
              · have hpp := mul_le_of hr0 hr1 (show 0 ≤ G by omega) (show G ≤ 1048576 by omega)
                obtain ⟨P, e4, hP⟩ : ∃ P, wrap64 (r * G) = P ∧ r * G = P := ⟨_, w64 (by omega) (by omega), rfl⟩
                rw [hP] at gb yb hpp
                obtain ⟨Q, e5, hQ⟩ : ∃ Q, wrap64 (b + P) = Q ∧ b + P = Q := ⟨_, w64 (by omega) (by omega), rfl⟩
                obtain ⟨V, e8, hV⟩ : ∃ Q, wrap64 (E2 + P) = Q ∧ E2 + P = Q := ⟨_, w64 (by omega) (by omega), rfl⟩
                have hcmp : ¬ Q < TG := by omega
                have hcmp2 : ¬ V < TY := by omega
                clear hu hu' hxj g0 g1 y0 y1 gs ys n0 n1 tt ti0 tj1 gb yb hr0 hr1 hb0 hb1 he0 he1 hG hji hTG hTY hE2 hP hpp hQ hV
                go_wp2_with fail
                go_quiet (fail)
                go_wp2_with fail
                go_roundg k2
                case measure => omega
                case rel => exact ⟨j + 1, t2 + nq, by go_num, by omega, by omega, HS1.out, HS2.out, rfl⟩
              · have hg' : decide (G < 1048576) = false := decide_eq_false hg
                clear hu hu' hxj g0 g1 y0 y1 gs ys n0 n1 tt ti0 tj1 gb yb hr0 hr1 hb0 hb1 he0 he1 hG hji hTG hTY hE2 hg
                go_wp2_with fail
                go_quiet (fail)
                go_wp2_with fail
                go_roundg k2
                case measure => omega
                case rel => exact ⟨j + 1, t2 + nq, by go_num, by omega, by omega, HS1.out, HS2.out, rfl⟩
            · obtain rfl : TG = SG := by rw [gs]; simp [gr]
              have e7 : wrap64 (SY + nj) = TY := by rw [w64 (by omega) (by omega), ys]; simp [ye]
              by_cases hg : G < 1048576
              · have hpp := mul_le_of hr0 hr1 (show 0 ≤ G by omega) (show G ≤ 1048576 by omega)
                obtain ⟨P, e4, hP⟩ : ∃ P, wrap64 (r * G) = P ∧ r * G = P := ⟨_, w64 (by omega) (by omega), rfl⟩
                rw [hP] at gb yb hpp
                obtain ⟨Q, e5, hQ⟩ : ∃ Q, wrap64 (b + P) = Q ∧ b + P = Q := ⟨_, w64 (by omega) (by omega), rfl⟩
                obtain ⟨V, e8, hV⟩ : ∃ Q, wrap64 (E2 + P) = Q ∧ E2 + P = Q := ⟨_, w64 (by omega) (by omega), rfl⟩
                have hcmp : ¬ Q < TG := by omega
                have hcmp2 : ¬ V < TY := by omega
                clear hu hu' hxj g0 g1 y0 y1 gs ys n0 n1 tt ti0 tj1 gb yb hr0 hr1 hb0 hb1 he0 he1 hG hji hTG hTY hE2 hP hpp hQ hV
                go_wp2_with fail
                go_quiet (fail)
                go_wp2_with fail
                go_roundg k2
                case measure => omega
                case rel => exact ⟨j + 1, t2 + nq, by go_num, by omega, by omega, HS1.out, HS2.out, rfl⟩
              · have hg' : decide (G < 1048576) = false := decide_eq_false hg
                clear hu hu' hxj g0 g1 y0 y1 gs ys n0 n1 tt ti0 tj1 gb yb hr0 hr1 hb0 hb1 he0 he1 hG hji hTG hTY hE2 hg
                go_wp2_with fail
                go_quiet (fail)
                go_wp2_with fail
                go_roundg k2
                case measure => omega
                case rel => exact ⟨j + 1, t2 + nq, by go_num, by omega, by omega, HS1.out, HS2.out, rfl⟩
            · obtain rfl : TG = SG := by rw [gs]; simp [gr]
              obtain rfl : TY = SY := by rw [ys]; simp [ye]
              by_cases hg : G < 1048576
              · have hpp := mul_le_of hr0 hr1 (show 0 ≤ G by omega) (show G ≤ 1048576 by omega)
                obtain ⟨P, e4, hP⟩ : ∃ P, wrap64 (r * G) = P ∧ r * G = P := ⟨_, w64 (by omega) (by omega), rfl⟩
                rw [hP] at gb yb hpp
                obtain ⟨Q, e5, hQ⟩ : ∃ Q, wrap64 (b + P) = Q ∧ b + P = Q := ⟨_, w64 (by omega) (by omega), rfl⟩
                obtain ⟨V, e8, hV⟩ : ∃ Q, wrap64 (E2 + P) = Q ∧ E2 + P = Q := ⟨_, w64 (by omega) (by omega), rfl⟩
                have hcmp : ¬ Q < TG := by omega
                have hcmp2 : ¬ V < TY := by omega
                clear hu hu' hxj g0 g1 y0 y1 gs ys n0 n1 tt ti0 tj1 gb yb hr0 hr1 hb0 hb1 he0 he1 hG hji hTG hTY hE2 hP hpp hQ hV
                go_wp2_with fail
                go_quiet (fail)
                go_wp2_with fail
                go_roundg k2
                case measure => omega
                case rel => exact ⟨j + 1, t2 + nq, by go_num, by omega, by omega, HS1.out, HS2.out, rfl⟩
              · have hg' : decide (G < 1048576) = false := decide_eq_false hg
                clear hu hu' hxj g0 g1 y0 y1 gs ys n0 n1 tt ti0 tj1 gb yb hr0 hr1 hb0 hb1 he0 he1 hG hji hTG hTY hE2 hg
                go_wp2_with fail
                go_quiet (fail)
                go_wp2_with fail
                go_roundg k2
                case measure => omega
                case rel => exact ⟨j + 1, t2 + nq, by go_num, by omega, by omega, HS1.out, HS2.out, rfl⟩
theorem bound_law {w : World} {A : Option Addr} {xs : List (Int × Int)} {n : Nat} (hP : ShotsIn w A xs) (hn : xs.length = n) (cap : Nat) (r b e : Int) :
    Calls Try.prog 5 #[.int .i64 r, .int .i64 b, .int .i64 e, .slice A n cap] w fun e w' => e = .returned (.bool true) ∧ Below w.heap.size w w' := by
  by_cases he : (played r b e xs).2.2 = 0
  · exact bound_yes hP hn cap r b e he
  · exact bound_no hP hn cap r b e he
end Go.Proofs.Ytnbjcahhmibmdaa
