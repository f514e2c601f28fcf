/- CurveOut: what goes keeps a curve, too. -/
import Derived.Test.YtdlmiiekcpbdcaaCvGood
namespace Go.Proofs.Ytdlmiiekcpbdcaa
open Go.RowKit Go.Maps

theorem srv_bounds {l s : Int} (hs : 0 ≤ s) : ∀ {xs : List Int} {q k : Int}, 0 ≤ q → (∀ x ∈ xs, 0 ≤ x) → ∀ y ∈ srv l s q k xs, 0 ≤ y ∧ y ≤ s
  | [], _, _, _, _, y, hy => by rw [srv_nil] at hy; cases hy
  | x :: xs, q, k, hq, hx, y, hy => by
    rw [srv_cons, List.mem_cons] at hy
    have h1 := sv_ge (l := l) (k := k) hq (hx x (by simp)) hs
    rcases hy with rfl | hy
    · exact ⟨h1.1, h1.2.2⟩
    · exact srv_bounds hs (by unfold sq; omega) (fun z hz => hx z (by simp [hz])) y hy
theorem out_keeps {b r l s : Int} {xs : List Int} (g : Good b r l s xs) (h : b + r * l ≤ 1048576) : keeps (b + r * l) r (srv l s 0 0 xs) = (true, 0) := by
  have hf := wrong4_false.1 g.f
  have ht := wtr_false.1 g.t
  have hm := Int.mul_nonneg hf.2.1.1 hf.2.2.1.1
  have hx : ∀ x ∈ xs, 0 ≤ x := fun x hx => (ht.2 x hx).1
  have h1 : (out20 (b + r * l) || out20 r) = false := by rw [out20_false.2 ⟨by omega, h⟩, out20_false.2 hf.2.1]; rfl
  have h2 : wtr (srv l s 0 0 xs) = false := wtr_false.2 ⟨by rw [srv_length]; exact ht.1, fun y hy => by
    have := srv_bounds hf.2.2.2.1 (by omega) hx y hy
    omega⟩
  unfold keeps
  rw [h1, h2, Bool.or_self, if_neg (by decide), out_go hf.1.1 hf.2.1.1 hf.2.2.2.1 hf.2.2.1.1 g.rs (Inv.start hf.1.1) (by omega) hx g.go]

set_option maxRecDepth 100000 in
set_option maxHeartbeats 8000000 in
theorem out_law {w : World} {xs : List Int} {A : Option Addr} {n : Nat} (hP : IntsIn w A xs) (hn : xs.length = n) (cap : Nat) (b r l s : Int) :
    Calls Try.prog 7 #[.agg #[.int .i64 b, .int .i64 r], .agg #[.int .i64 l, .int .i64 s], .slice A n cap] w fun e w' => e = .returned (.bool true) ∧ Below w.heap.size w w' := by
  have HX := Lib.hid (laid2_at w b r l s)
  have HA := Lib.hid (fun W => alive11_any W)
  have HB := Lib.hid (fun w => backlog_any b r l s w)
  have HPB := Lib.hid (fun W (hW : Below w.heap.size w W) => hP.below hW)
  have HK := Lib.hid (fun W (hW : Below w.heap.size w W) => keeps_any (hP.below hW) cap b r)
  have HS := Lib.hid (fun W (hW : Below w.heap.size w W) => serve_any (hP.below hW) cap l s)
  have HG : Hid ((backlog b r l s).2 = 0 → keeps b r xs = (true, 0) → Good b r l s xs ∧ serve l s xs = (srv l s 0 0 xs, 0) ∧ (backlog b r l s).1 = b + r * l) := Lib.hid (fun h1 h2 => by
    have hb := backlog_ok h1
    have g := good_of hb.1 h2
    exact ⟨g, g.serve, hb.2⟩)
  have hlen := hP.len
  have HN := Lib.hid hn
  unfold Served at HS
  rw [hn] at HK HS hlen
  clear hP hn
  generalize backlog b r l s = B at *
  generalize keeps b r xs = K at *
  generalize serve l s xs = V at *
  obtain ⟨b0, be⟩ := B
  obtain ⟨k0, ke⟩ := K
  obtain ⟨v0, ve⟩ := V
  dsimp only at HB HK HS HG
  go_enter Try.func7, Try.ntmps7
  go_upto_region 1 with fail
  change Code.wp _ _ _ _ (laid2 w b r l s)
  generalize laid2 w b r l s = m0 at *
  go_wp2_with fail
  refine (HA.out _).mono ?_
  rintro e1 w1 ⟨rfl, hb⟩
  have HY := Lib.hid (HX.out.later hb)
  clear HX HA hb
  obtain ⟨⟨c0, c1⟩, c2, c3⟩ := HY.out.cells
  go_wp2_with fail
  refine (HB.out _).mono ?_
  rintro e1 w2 ⟨rfl, hb⟩
  have HZ := Lib.hid (HY.out.later hb)
  clear HY HB hb c0 c1 c2 c3
  obtain ⟨⟨c0, c1⟩, c2, c3⟩ := HZ.out.cells
  go_wp2_with fail
  refine (HK.out _ HZ.out.below).mono ?_
  rintro e1 w3 ⟨rfl, hb⟩
  have HY := Lib.hid (HZ.out.later hb)
  clear HZ HK hb c0 c1 c2 c3
  obtain ⟨⟨c0, c1⟩, c2, c3⟩ := HY.out.cells
  go_wp2_with fail
  refine (HS.out _ HY.out.below).mono ?_
  rintro e1 w4 ⟨R, cR, rfl, _, hR, hb⟩
  have HZ := Lib.hid (And.intro hR (And.intro (HY.out.later hb).below (HY.out.later hb).cur))
  clear HY HS hb hR c0 c1 c2 c3
  by_cases h1 : be = 0
  · subst h1
    by_cases h2 : ke = 0
    · subst h2
      by_cases h3 : ve = 0
      · subst h3
        cases k0 with
        | false =>
          go_wp2_with fail
          go_ret
          exact ⟨rfl, HZ.out.2.1⟩
        | true =>
          obtain ⟨g, hv, hb0⟩ := HG.out rfl rfl
          injection hv with hv _
          have HR : Hid (b0 ≤ 1048576 → keeps b0 r v0 = (true, 0)) := Lib.hid (fun h => by
            rw [hv, hb0]
            exact out_keeps g (by omega))
          have HK2 := Lib.hid (keeps_any HZ.out.1 cR b0 r)
          have HCU := Lib.hid HZ.out.2.2
          generalize keeps b0 r v0 = K2 at *
          obtain ⟨k2, f2⟩ := K2
          dsimp only at HR HK2
          obtain ⟨c0, c1⟩ := HCU.out.cells
          clear hv hb0 g HG HPB
          go_wp2_with fail
          refine HK2.out.mono ?_
          rintro e1 w5 ⟨rfl, hb⟩
          have HW := Lib.hid (HZ.out.2.1.trans (hb.mono HZ.out.2.1.size))
          clear HZ HK2 HCU hb c0 c1
          by_cases hbb : 1048576 < b0
          · go_wp2_with fail
            go_ret
            exact ⟨ret_bool (by simp), HW.out⟩
          · have hr := HR.out (by omega)
            injection hr with q1 q2
            subst q1 q2
            go_wp2_with fail
            go_ret
            exact ⟨ret_bool (by simp), HW.out⟩
      · have i1 : (ve != 0) = true := by simpa using h3
        go_wp2_with fail
        go_ret
        exact ⟨rfl, HZ.out.2.1⟩
    · have i1 : (ke != 0) = true := by simpa using h2
      go_wp2_with fail
      go_ret
      exact ⟨rfl, HZ.out.2.1⟩
  · have i1 : (be != 0) = true := by simpa using h1
    go_wp2_with fail
    go_ret
    exact ⟨rfl, HZ.out.2.1⟩
end Go.Proofs.Ytdlmiiekcpbdcaa
