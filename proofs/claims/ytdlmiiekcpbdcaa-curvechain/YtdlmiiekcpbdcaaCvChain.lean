/- CurveChain: a burst is paid for once. -/
import Derived.Test.YtdlmiiekcpbdcaaCv7
namespace Go.Proofs.Ytdlmiiekcpbdcaa
open Go.RowKit Go.Maps

theorem chain_comm (l s m t : Int) : chain m t l s = chain l s m t := by
  unfold chain
  rw [Bool.or_comm, show m + l = l + m by omega, show min t s = min s t by omega]
theorem chain_bounds {b r l s m t : Int} (hU : (chain l s m t).2 = 0) (hD : (delay b r l s).2 = 0) (hE : (delay (backlog b r l s).1 r m t).2 = 0) :
    (delay b r (chain l s m t).1.1 (chain l s m t).1.2).2 = 0 ∧ (delay b r (chain l s m t).1.1 (chain l s m t).1.2).1 ≤ (delay b r l s).1 + (delay (backlog b r l s).1 r m t).1 := by
  have hb : (backlog b r l s).1 = b + r * l := by unfold backlog; rw [if_pos hD]
  rw [hb] at hE ⊢
  have hw := chain_way l s m t
  generalize chain l s m t = U at *
  cases hw with
  | bad => cases hU
  | full => cases hU
  | good h h1 =>
    have hf := pairs_false h
    have hf1 := wrong4_false.1 (delay_ok hD).1
    have hr1 := (delay_ok hD).2
    have hr2 := (delay_ok hE).2
    have hg : wrong4 b r (l + m) (min s t) = false := wrong4_false.2 ⟨hf1.1, hf1.2.1, by omega, by omega⟩
    have hrl := Int.mul_nonneg hf1.2.1.1 hf1.2.2.1.1
    dsimp only
    have n1 := (delay_nonneg b r l s).1
    have n2 := (delay_nonneg (b + r * l) r m t).1
    have w1 := delay_way b r l s
    have w2 := delay_way (b + r * l) r m t
    have w3 := delay_way b r (l + m) (min s t)
    generalize delay b r l s = D at *
    generalize delay (b + r * l) r m t = E at *
    generalize delay b r (l + m) (min s t) = J at *
    cases w3 with
    | bad z => rw [hg] at z; cases z
    | zero => exact ⟨rfl, by dsimp only; omega⟩
    | none z z0 z1 =>
      exfalso
      cases w1 with
      | bad => cases hD
      | zero => omega
      | none => cases hD
      | some _ _ a3 a4 =>
        cases w2 with
        | bad => cases hE
        | zero _ y => omega
        | none => cases hE
        | some _ _ b3 b4 => omega
    | some z z0 z1 z2 =>
      refine ⟨rfl, ?_⟩
      cases w1 with
      | bad => cases hD
      | zero => omega
      | none => cases hD
      | some _ _ a3 a4 =>
        cases w2 with
        | bad => cases hE
        | zero _ y => omega
        | none => cases hE
        | some _ _ b3 b4 =>
          dsimp only
          unfold late
          have k1 := (ceil_spec (x := b + r) a3 (by omega)).1
          have k2 := (ceil_spec (x := b + r * l + r) b3 (by omega)).1
          have k3 := ceil_mono (x := b + r) (y := b + r * l + r) b3 (by omega)
          by_cases c : s ≤ t
          · rw [show min s t = s by omega]
            omega
          · rw [show min s t = t by omega]
            omega

/-- A curve and two services in the first three blocks behind w0. -/
structure Three (w0 w : World) (b r l s m t : Int) : Prop where
  two : Two w0 w b r l s
  ser : SerAt w (w0.heap.size + 2) m t
theorem Three.later {w0 w w' : World} {b r l s m t : Int} (h : Three w0 w b r l s m t) (hb : Below w.heap.size w w') : Three w0 w' b r l s m t := ⟨h.two.later hb, h.ser.below hb⟩
def laid4 (w : World) (b r l s m t : Int) : World := laidS (laid2 w b r l s) m t
theorem laid4_at (w : World) (b r l s m t : Int) : Three w (laid4 w b r l s m t) b r l s m t := by
  have h1 := laid2_at w b r l s
  have h2 := laidS_at (laid2 w b r l s) m t
  have hs : (laid2 w b r l s).heap.size = w.heap.size + 2 := by unfold laid2; rw [(laidS_at _ _ _).2.2, (laidC_at _ _ _).2.2]
  exact ⟨h1.later h2.2.1, by have := h2.1; rwa [hs] at this⟩

set_option maxRecDepth 100000 in
set_option maxHeartbeats 8000000 in
theorem chain_law (b r l s m t : Int) (w : World) : Calls Try.prog 8 #[.agg #[.int .i64 b, .int .i64 r], .agg #[.int .i64 l, .int .i64 s], .agg #[.int .i64 m, .int .i64 t]] w fun e w' => e = .returned (.bool true) ∧ Below w.heap.size w w' := by
  have HX := Lib.hid (laid4_at w b r l s m t)
  have HA := Lib.hid (fun W => alive11_any W)
  have HU := Lib.hid (fun w => chain_any l s m t w)
  have HV := Lib.hid (fun w => chain_any m t l s w)
  rw [chain_comm] at HV
  have HD := Lib.hid (fun w => delay_any b r l s w)
  have HB := Lib.hid (fun w => backlog_any b r l s w)
  have HE := Lib.hid (fun w => delay_any (backlog b r l s).1 r m t w)
  have HJ := Lib.hid (fun w => delay_any b r (chain l s m t).1.1 (chain l s m t).1.2 w)
  have HM := Lib.hid (chain_bounds (b := b) (r := r) (l := l) (s := s) (m := m) (t := t))
  have hn1 := delay_nonneg b r l s
  have hn2 := delay_nonneg (backlog b r l s).1 r m t
  generalize delay b r (chain l s m t).1.1 (chain l s m t).1.2 = J at *
  generalize delay (backlog b r l s).1 r m t = E at *
  generalize delay b r l s = D at *
  generalize backlog b r l s = B at *
  generalize chain l s m t = U at *
  obtain ⟨⟨u0, u1⟩, ue⟩ := U
  obtain ⟨d0, de⟩ := D
  obtain ⟨b0, be⟩ := B
  obtain ⟨e0, ee⟩ := E
  obtain ⟨j0, je⟩ := J
  dsimp only at HU HV HD HB HE HJ HM hn1 hn2
  have eq1 : wrap64 (d0 + e0) = d0 + e0 := IntWalk.wrap64_in _ (by constructor <;> omega)
  clear hn1 hn2
  go_enter Try.func8, Try.ntmps8
  go_upto_region 1 with fail
  change Code.wp _ _ _ _ (laid4 w b r l s m t)
  generalize laid4 w b r l s m t = m0 at *
  go_wp2_with fail
  refine (HA.out _).mono ?_
  rintro e1 w1 ⟨rfl, hb⟩
  have HY := Lib.hid (HX.out.later hb)
  clear HX HA hb
  obtain ⟨⟨⟨c0, c1⟩, c2, c3⟩, c4, c5⟩ := And.intro HY.out.two.cells HY.out.ser.cells
  go_wp2_with fail
  refine (HU.out _).mono ?_
  rintro e2 w2 ⟨rfl, hb⟩
  have hl := laidS_at w2 u0 u1
  have HZ := Lib.hid (And.intro ((HY.out.later hb).later hl.2.1) hl.1)
  clear HY hb c0 c1 c2 c3 c4 c5 HU hl
  go_upto_region 4 with fail
  change Code.wp _ _ _ _ (laidS w2 u0 u1)
  generalize laidS w2 u0 u1 = w3 at *
  generalize w2.heap.size = g7 at *
  obtain ⟨⟨⟨c0, c1⟩, c2, c3⟩, c4, c5⟩ := And.intro HZ.out.1.two.cells HZ.out.1.ser.cells
  go_wp2_with fail
  refine (HV.out _).mono ?_
  rintro e2 w4 ⟨rfl, hb⟩
  have hl := laidS_at w4 u0 u1
  have HY := Lib.hid (And.intro ((HZ.out.1.later hb).later hl.2.1) (And.intro ((HZ.out.2.below hb).below hl.2.1) hl.1))
  clear HZ hb c0 c1 c2 c3 c4 c5 HV hl
  go_upto_region 5 with fail
  change Code.wp _ _ _ _ (laidS w4 u0 u1)
  generalize laidS w4 u0 u1 = w5 at *
  generalize w4.heap.size = g9 at *
  obtain ⟨⟨⟨c0, c1⟩, c2, c3⟩, c4, c5⟩ := And.intro HY.out.1.two.cells HY.out.1.ser.cells
  go_wp2_with fail
  refine (HD.out _).mono ?_
  rintro e2 w6 ⟨rfl, hb⟩
  have HZ := Lib.hid (And.intro (HY.out.1.later hb) (And.intro (HY.out.2.1.below hb) (HY.out.2.2.below hb)))
  clear HY hb c0 c1 c2 c3 c4 c5 HD
  obtain ⟨⟨⟨c0, c1⟩, c2, c3⟩, c4, c5⟩ := And.intro HZ.out.1.two.cells HZ.out.1.ser.cells
  go_wp2_with fail
  refine (HB.out _).mono ?_
  rintro e2 w7 ⟨rfl, hb⟩
  have HY := Lib.hid (And.intro (HZ.out.1.later hb) (And.intro (HZ.out.2.1.below hb) (HZ.out.2.2.below hb)))
  clear HZ hb c0 c1 c2 c3 c4 c5 HB
  obtain ⟨⟨⟨c0, c1⟩, c2, c3⟩, c4, c5⟩ := And.intro HY.out.1.two.cells HY.out.1.ser.cells
  go_wp2_with fail
  refine (HE.out _).mono ?_
  rintro e2 w8 ⟨rfl, hb⟩
  have HZ := Lib.hid (And.intro (HY.out.1.later hb) (And.intro (HY.out.2.1.below hb) (HY.out.2.2.below hb)))
  clear HY hb c0 c1 c2 c3 c4 c5 HE
  obtain ⟨⟨⟨c0, c1⟩, c2, c3⟩, c4, c5⟩ := And.intro HZ.out.1.two.cells HZ.out.2.1.cells
  go_wp2_with fail
  refine (HJ.out _).mono ?_
  rintro e2 w9 ⟨rfl, hb⟩
  have HY := Lib.hid (And.intro (HZ.out.1.two.later hb).below (And.intro (HZ.out.2.1.below hb) (HZ.out.2.2.below hb)))
  clear HZ hb c0 c1 c2 c3 c4 c5 HJ
  obtain ⟨⟨c4, c5⟩, c6, c7⟩ := And.intro HY.out.2.1.cells HY.out.2.2.cells
  by_cases h1 : ue = 0
  · subst h1
    by_cases h2 : de = 0
    · subst h2
      by_cases h3 : be = 0
      · subst h3
        by_cases h4 : ee = 0
        · subst h4
          obtain ⟨rfl, hle⟩ := HM.out rfl rfl rfl
          go_wp2_with fail
          go_ret
          exact ⟨ret_bool (by simp), HY.out.1⟩
        · have i1 : (ee != 0) = true := by simpa using h4
          go_wp2_with fail
          go_ret
          exact ⟨ret_bool (by simp), HY.out.1⟩
      · have i1 : (be != 0) = true := by simpa using h3
        go_wp2_with fail
        go_ret
        exact ⟨ret_bool (by simp), HY.out.1⟩
    · have i1 : (de != 0) = true := by simpa using h2
      go_wp2_with fail
      go_ret
      exact ⟨ret_bool (by simp), HY.out.1⟩
  · have i1 : (ue != 0) = true := by simpa using h1
    go_wp2_with fail
    go_ret
    exact ⟨ret_bool (by simp), HY.out.1⟩
end Go.Proofs.Ytdlmiiekcpbdcaa
