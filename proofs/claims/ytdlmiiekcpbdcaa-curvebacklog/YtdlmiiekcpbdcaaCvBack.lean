/- CurveBacklog: no more waits than is said. -/
import Derived.Test.YtdlmiiekcpbdcaaCvGood
namespace Go.Proofs.Ytdlmiiekcpbdcaa
open Go.RowKit Go.Maps

set_option maxRecDepth 100000 in
set_option maxHeartbeats 8000000 in
theorem backlog_law {w : World} {xs : List Int} {A : Option Addr} {n : Nat} (hP : IntsIn w A xs) (hn : xs.length = n) (cap : Nat) (b r l s : Int) :
    Calls Try.prog 5 #[.agg #[.int .i64 b, .int .i64 r], .agg #[.int .i64 l, .int .i64 s], .slice A n cap] w fun e w' => e = .returned (.bool true) ∧ Below w.heap.size w w' := by
  have HX := Lib.hid (laid2_at w b r l s)
  have HA := Lib.hid (fun W => alive11_any W)
  have HB := Lib.hid (fun w => backlog_any b r l s w)
  have HPB := Lib.hid (fun W (hW : Below w.heap.size w W) => hP.below hW)
  have HK := Lib.hid (fun W (hW : Below w.heap.size w W) => keeps_any (hP.below hW) cap b r)
  have HS := Lib.hid (fun W (hW : Below w.heap.size w W) => serve_any (hP.below hW) cap l s)
  have HG : Hid ((backlog b r l s).2 = 0 → keeps b r xs = (true, 0) → Good b r l s xs ∧ serve l s xs = (srv l s 0 0 xs, 0) ∧ (backlog b r l s).1 = b + r * l) := Lib.hid (fun h1 h2 => by
    have hb := backlog_ok h1
    have g := good_of hb.1 h2
    exact ⟨g, g.serve, hb.2⟩)
  have hlen := hP.len
  have HN := Lib.hid hn
  unfold Served at HS
  rw [hn] at HK HS hlen
  clear hP hn
  generalize backlog b r l s = B at *
  generalize keeps b r xs = K at *
  generalize serve l s xs = V at *
  obtain ⟨b0, be⟩ := B
  obtain ⟨k0, ke⟩ := K
  obtain ⟨v0, ve⟩ := V
  dsimp only at HB HK HS HG
  go_enter Try.func5, Try.ntmps5
  go_upto_region 1 with fail
  change Code.wp _ _ _ _ (laid2 w b r l s)
  generalize laid2 w b r l s = m0 at *
  go_wp2_with fail
  refine (HA.out _).mono ?_
  rintro e1 w1 ⟨rfl, hb⟩
  have HY := Lib.hid (HX.out.later hb)
  clear HX HA hb
  obtain ⟨⟨c0, c1⟩, c2, c3⟩ := HY.out.cells
  go_wp2_with fail
  refine (HB.out _).mono ?_
  rintro e1 w2 ⟨rfl, hb⟩
  have HZ := Lib.hid (HY.out.later hb)
  clear HY HB hb c0 c1 c2 c3
  obtain ⟨⟨c0, c1⟩, c2, c3⟩ := HZ.out.cells
  go_wp2_with fail
  refine (HK.out _ HZ.out.below).mono ?_
  rintro e1 w3 ⟨rfl, hb⟩
  have HY := Lib.hid (HZ.out.later hb)
  clear HZ HK hb c0 c1 c2 c3
  obtain ⟨⟨c0, c1⟩, c2, c3⟩ := HY.out.cells
  go_wp2_with fail
  refine (HS.out _ HY.out.below).mono ?_
  rintro e1 w4 ⟨R, cR, rfl, _, hR, hb⟩
  have HZ := Lib.hid (And.intro hR (HY.out.later hb).below)
  clear HY HS hb hR c0 c1 c2 c3
  by_cases h1 : be = 0
  · subst h1
    by_cases h2 : ke = 0
    · subst h2
      by_cases h3 : ve = 0
      · subst h3
        cases k0 with
        | false =>
          go_wp2_with fail
          go_ret
          exact ⟨rfl, HZ.out.2⟩
        | true =>
          obtain ⟨g, hv, hb0⟩ := HG.out rfl rfl
          injection hv with hv _
          have HGD := Lib.hid g
          have HV := Lib.hid hv
          have HI := Lib.hid (HPB.out _ HZ.out.2)
          have hvl : v0.length = n := by rw [hv, srv_length]; exact HN.out
          have HL := Lib.hid hvl
          rw [hvl]
          have hf := wrong4_false.1 g.f
          have hm0 := Int.mul_nonneg hf.2.1.1 hf.2.2.1.1
          have hm1 : r * l ≤ 1048576 * 1048576 := Int.mul_le_mul hf.2.1.2 hf.2.2.1.2 hf.2.2.1.1 (by decide)
          have hb1 : b0 ≤ 1048576 + 1048576 * 1048576 := by omega
          have HB0 := Lib.hid hb0
          clear hvl hv g hb0 hf hm0 hm1 HG HPB
          go_wp2_with fail
          go_loopg [13, 52] n (fun z p c wr => ∃ (i : Nat) (q : Int), p = .int .i64 q ∧ c = .int .i64 (i : Int) ∧ i + z = n ∧ wr = w4 ∧ 0 ≤ q ∧ q ≤ b0 ∧ Hid (Now b r l s xs i q))
          case atStart => exact ⟨0, 0, rfl, rfl, by omega, rfl, by omega, by rw [HB0.out]; exact (HGD.out.now.bound HGD.out).2, Lib.hid HGD.out.now⟩
          case round =>
            obtain ⟨i, q, rfl, rfl, hik, rfl, hq0, hq1, HE⟩ := hrel
            cases gk with
            | zero =>
              obtain rfl : i = n := by omega
              go_wp2_with fail
              go_ret
              exact ⟨rfl, HZ.out.2⟩
            | succ k =>
              have hi : i < n := by omega
              have i1 : (i : Int) < (n : Int) := by omega
              obtain ⟨a0, off, x, rfl, hx, hat, _⟩ := HI.out.next (i := i) (by have := HN.out; omega)
              obtain ⟨y, hy, hnx, hx2, hy2⟩ := HE.out.next HGD.out hx
              obtain ⟨a1, off1, y', rfl, hy', hat1, _⟩ := HZ.out.1.next (i := i) (by have := HL.out; omega)
              obtain rfl : y' = y := by
                have h := HV.out
                rw [h] at hy'
                rw [hy'] at hy
                injection hy
              rw [show q + x - y' = q + (x - y') by omega] at hnx
              have hbd := hnx.bound HGD.out
              rw [← HB0.out] at hbd
              have HQ := Lib.hid hnx
              have e1 : wrap64 (x - y') = x - y' := IntWalk.wrap64_in _ (by constructor <;> omega)
              have e2 : wrap64 (q + (x - y')) = q + (x - y') := IntWalk.wrap64_in _ (by constructor <;> omega)
              have i2 : ¬ b0 < q + (x - y') := by omega
              have i3 : ¬ q + (x - y') < 0 := by omega
              clear hx hy hy' hnx HE HI HV
              go_wp2_with fail
              go_roundg k
              case measure => omega
              case rel => exact ⟨i + 1, q + (x - y'), rfl, by go_num, by omega, rfl, by omega, by omega, HQ⟩
      · have i1 : (ve != 0) = true := by simpa using h3
        go_wp2_with fail
        go_ret
        exact ⟨rfl, HZ.out.2⟩
    · have i1 : (ke != 0) = true := by simpa using h2
      go_wp2_with fail
      go_ret
      exact ⟨rfl, HZ.out.2⟩
  · have i1 : (be != 0) = true := by simpa using h1
    go_wp2_with fail
    go_ret
    exact ⟨rfl, HZ.out.2⟩
end Go.Proofs.Ytdlmiiekcpbdcaa
