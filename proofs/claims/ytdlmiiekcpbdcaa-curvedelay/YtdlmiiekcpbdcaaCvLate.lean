/- CurveDelay: nothing is later than is said. -/
import Derived.Test.YtdlmiiekcpbdcaaCvLateM
namespace Go.Proofs.Ytdlmiiekcpbdcaa
open Go.RowKit Go.Maps

set_option maxRecDepth 100000 in
set_option maxHeartbeats 8000000 in
theorem late_law {w : World} {xs : List Int} {A : Option Addr} {n : Nat} (hP : IntsIn w A xs) (hn : xs.length = n) (cap : Nat) (b r l s : Int) :
    Calls Try.prog 6 #[.agg #[.int .i64 b, .int .i64 r], .agg #[.int .i64 l, .int .i64 s], .slice A n cap] w fun e w' => e = .returned (.bool true) ∧ Below w.heap.size w w' := by
  have HX := Lib.hid (laid2_at w b r l s)
  have HA := Lib.hid (fun W => alive11_any W)
  have HB := Lib.hid (fun w => delay_any b r l s w)
  have HPB := Lib.hid (fun W (hW : Below w.heap.size w W) => hP.below hW)
  have HK := Lib.hid (fun W (hW : Below w.heap.size w W) => keeps_any (hP.below hW) cap b r)
  have HS := Lib.hid (fun W (hW : Below w.heap.size w W) => serve_any (hP.below hW) cap l s)
  have HG : Hid ((delay b r l s).2 = 0 → keeps b r xs = (true, 0) → Good b r l s xs ∧ serve l s xs = (srv l s 0 0 xs, 0)) := Lib.hid (fun h1 h2 => by
    have g := good_of h1 h2
    exact ⟨g, g.serve⟩)
  have HLT : Hid (Good b r l s xs → ∀ (i d : Nat), (delay b r l s).1 = (d : Int) → i + d + 1 ≤ xs.length → tot (xs.take (i + 1)) ≤ tot ((srv l s 0 0 xs).take (i + d + 1))) := Lib.hid (fun g i d => g.late i d)
  obtain ⟨d, hd⟩ : ∃ d : Nat, (delay b r l s).1 = (d : Int) := ⟨(delay b r l s).1.toNat, by have := (delay_nonneg b r l s).1; omega⟩
  have hd2 : (d : Int) ≤ 4194304 := by have := (delay_nonneg b r l s).2; omega
  have hlen := hP.len
  have HN := Lib.hid hn
  unfold Served at HS
  rw [hn] at HK HS hlen
  clear hP hn
  generalize delay b r l s = B at *
  generalize keeps b r xs = K at *
  generalize serve l s xs = V at *
  obtain ⟨b0, be⟩ := B
  obtain ⟨k0, ke⟩ := K
  obtain ⟨v0, ve⟩ := V
  dsimp only at HB HK HS HG HLT hd
  have HD0 := Lib.hid hd
  clear hd
  go_enter Try.func6, Try.ntmps6
  go_upto_region 1 with fail
  change Code.wp _ _ _ _ (laid2 w b r l s)
  generalize laid2 w b r l s = m0 at *
  go_wp2_with fail
  refine (HA.out _).mono ?_
  rintro e1 w1 ⟨rfl, hb⟩
  have HY := Lib.hid (HX.out.later hb)
  clear HX HA hb
  obtain ⟨⟨c0, c1⟩, c2, c3⟩ := HY.out.cells
  go_wp2_with fail
  refine (HB.out _).mono ?_
  rintro e1 w2 ⟨rfl, hb⟩
  have HZ := Lib.hid (HY.out.later hb)
  clear HY HB hb c0 c1 c2 c3
  obtain ⟨⟨c0, c1⟩, c2, c3⟩ := HZ.out.cells
  go_wp2_with fail
  refine (HK.out _ HZ.out.below).mono ?_
  rintro e1 w3 ⟨rfl, hb⟩
  have HY := Lib.hid (HZ.out.later hb)
  clear HZ HK hb c0 c1 c2 c3
  obtain ⟨⟨c0, c1⟩, c2, c3⟩ := HY.out.cells
  go_wp2_with fail
  refine (HS.out _ HY.out.below).mono ?_
  rintro e1 w4 ⟨R, cR, rfl, hRc, hR, hb⟩
  have HZ := Lib.hid (And.intro hR (HY.out.later hb).below)
  clear HY HS hb hR c0 c1 c2 c3
  by_cases h1 : be = 0
  · subst h1
    by_cases h2 : ke = 0
    · subst h2
      by_cases h3 : ve = 0
      · subst h3
        cases k0 with
        | false =>
          go_wp2_with fail
          go_ret
          exact ⟨rfl, HZ.out.2⟩
        | true =>
          obtain ⟨g, hv⟩ := HG.out rfl rfl
          injection hv with hv _
          have HV := Lib.hid (fun i h => HLT.out g i d HD0.out h)
          have HI := Lib.hid (HPB.out _ HZ.out.2)
          have hvl : v0.length = n := by rw [hv, srv_length]; exact HN.out
          have HL := Lib.hid hvl
          have htx := tot_all (fun x hx => (wtr_false.1 g.t).2 x hx)
          have htv := tot_all (fun y hy => by
            have h1 := srv_bounds (wrong4_false.1 g.f).2.2.2.1 (Int.le_refl 0) (fun x hx => ((wtr_false.1 g.t).2 x hx).1) y (show y ∈ srv l s 0 0 xs from hy)
            have h2 := (wrong4_false.1 g.f).2.2.2.2
            exact ⟨h1.1, by omega⟩)
          have hn4 : n ≤ 400 := by have := (wtr_false.1 g.t).1; have := HN.out; omega
          rw [hvl] at hRc ⊢
          rw [← hv] at htv HV
          have HTX := Lib.hid htx
          have HTV := Lib.hid htv
          clear hvl hv g HG HPB HLT htx htv
          go_wp2_with fail
          go_loopg [13, 76] n (fun z p c wr => ∃ (i : Nat), p = .int .i64 (tot (xs.take i)) ∧ c = .int .i64 (i : Int) ∧ i + z = n ∧ wr = w4)
          case atStart => exact ⟨0, rfl, rfl, by omega, rfl⟩
          case round =>
            obtain ⟨i, rfl, rfl, hik, rfl⟩ := hrel
            cases gk with
            | zero =>
              obtain rfl : i = n := by omega
              go_wp2_with fail
              go_ret
              exact ⟨rfl, HZ.out.2⟩
            | succ k =>
              have hi : i < n := by omega
              have i1 : (i : Int) < (n : Int) := by omega
              obtain ⟨a0, off, x, rfl, hx, hat, _⟩ := HI.out.next (i := i) (by have := HN.out; omega)
              obtain ⟨a1, off1, y', hRr, _, _, _⟩ := HZ.out.1.next (i := i) (by have := HL.out; omega)
              subst hRr
              have hs := tot_snoc hx
              have hb1 := HTX.out i
              have hb2 := HTX.out (i + 1)
              obtain ⟨H, hH⟩ : ∃ H : Nat, min (i + d + 1) n = H := ⟨_, rfl⟩
              have hHn : H ≤ n := by omega
              generalize hT1 : tot (xs.take (i + 1)) = T1 at hs hb2
              generalize tot (xs.take i) = T0 at hs hb1 ⊢
              have HT1 := Lib.hid hT1
              have hxl := HN.out
              obtain ⟨Y, Z, hI, hhI, hY, e1, e2, e3, e4, e5⟩ := late_sums (d := d) hs (by omega) hn4 hi hd2 HD0.out hH
              have hsl := slice_head a1 off1 n cR H (by omega) hhI
              have HY := Lib.hid hY
              have HH := Lib.hid hH
              clear hx hs hb1 hb2 hT1 hH hxl hhI hY
              go_wp2_with fail
              clear e1 e3 e4 e5 hsl hat HI
              have HIL := Lib.hid hik
              clear hik
              go_loopg [16, 95] H (fun z2 p c wr2 => ∃ j : Nat, p = .int .i64 (tot (v0.take j)) ∧ c = .int .i64 (j : Int) ∧ j + z2 = H ∧ wr2 = wr)
              case atStart => exact ⟨0, rfl, rfl, by omega, rfl⟩
              case round =>
                obtain ⟨j, rfl, rfl, hjk, rfl⟩ := hrel
                cases gk with
                | zero =>
                  obtain rfl : j = H := by omega
                  by_cases hyn : Y < (n : Int)
                  · have i2 : ¬ tot (v0.take j) < T1 := by
                      have h1 := HV.out i (by have := HN.out; have := HY.out; omega)
                      have h2 : i + d + 1 = j := by have := HH.out; have := HY.out; omega
                      rw [HT1.out, h2] at h1
                      omega
                    generalize tot (v0.take j) = G at *
                    clear HV HTX HTV HH
                    go_wp2_with fail
                    go_roundg k
                    case measure => omega
                    case rel => exact ⟨i + 1, by rw [HT1.out], by go_num, by have := HIL.out; omega, rfl⟩
                  · generalize tot (v0.take j) = G at *
                    clear HV HTX HTV HH
                    go_wp2_with fail
                    go_roundg k
                    case measure => omega
                    case rel => exact ⟨i + 1, by rw [HT1.out], by go_num, by have := HIL.out; omega, rfl⟩
                | succ k2 =>
                  have hj : j < H := by omega
                  have i2 : (j : Int) < (H : Int) := by omega
                  obtain ⟨a2, off2, y, hRr, hy, hat, _⟩ := HZ.out.1.next (i := j) (by have := HL.out; omega)
                  injection hRr with hRr
                  injection hRr with q1 q2 _
                  subst q1 q2
                  have hs := tot_snoc hy
                  have hb1 := HTV.out (j + 1)
                  have hl := HL.out
                  have e1 : wrap64 (tot (v0.take j) + y) = tot (v0.take (j + 1)) := by
                    rw [← hs]
                    exact IntWalk.wrap64_in _ (by constructor <;> omega)
                  clear hy hs hb1 hl HV HTX HTV HH
                  generalize hG1 : tot (v0.take (j + 1)) = G1 at e1
                  have HG1 := Lib.hid hG1
                  clear hG1
                  generalize tot (v0.take j) = G0 at *
                  go_wp2_with fail
                  go_roundg k2
                  case measure => omega
                  case rel => exact ⟨j + 1, by rw [HG1.out], by go_num, by omega, rfl⟩
      · have i1 : (ve != 0) = true := by simpa using h3
        go_wp2_with fail
        go_ret
        exact ⟨rfl, HZ.out.2⟩
    · have i1 : (ke != 0) = true := by simpa using h2
      go_wp2_with fail
      go_ret
      exact ⟨rfl, HZ.out.2⟩
  · have i1 : (be != 0) = true := by simpa using h1
    go_wp2_with fail
    go_ret
    exact ⟨rfl, HZ.out.2⟩
end Go.Proofs.Ytdlmiiekcpbdcaa
