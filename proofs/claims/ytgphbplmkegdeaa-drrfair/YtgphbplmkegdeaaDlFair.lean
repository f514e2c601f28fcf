/- DrrFair: who has packets yet has sent no more than its turns, and less by less than the greatest packet. -/
import Derived.Test.YtgphbplmkegdeaaDl2
import Derived.Test.YtgphbplmkegdeaaDlM
namespace Go.Proofs.Ytgphbplmkegdeaa
open Go.RowKit Go.Maps

theorem small_prod {a b : Int} (ha : 0 ≤ a ∧ a ≤ 400) (hb : 0 ≤ b ∧ b ≤ 10000) : IntKind.i64.wrap (a * b) = a * b ∧ 0 ≤ a * b ∧ a * b ≤ 4000000 := by
  have h1 := Int.mul_nonneg ha.1 hb.1
  have h2 : a * b ≤ 400 * 10000 := Int.mul_le_mul ha.2 hb.2 hb.1 (by decide)
  exact ⟨wrap_in (by omega) (by omega), h1, by omega⟩
set_option maxRecDepth 100000 in
set_option maxHeartbeats 16000000 in
theorem drrFair_law {w : World} {P Q : Option Addr} {xs : List Int} {fs : List (List Int)} (hx : IntsIn w P xs) (hy : ListsIn w Q fs) (cx cy : Nat) (r : Int) :
    Calls Try.prog 5 #[.slice P xs.length cx, .slice Q fs.length cy, .int .i64 r] w fun e w' => e = .returned (.bool true) ∧ Below w.heap.size w w' := by
  have HA := Lib.hid alive14_any
  have HE := Lib.hid (fun W (hW : Below w.heap.size w W) => rounds_any (hx.below hW) (hy.below hW) cx cy r)
  unfold Out at HE
  rcases rounds_way xs fs r with ⟨h12, he⟩ | ⟨_, hR, q, rfl, hq, he⟩
  · have hE : (roundsErr xs fs r != 0) = true := by rcases h12 with h | h <;> rw [h] <;> rfl
    rw [he] at HE
    generalize roundsErr xs fs r = E at *
    clear hx hy h12 he
    simp only [List.length_nil] at HE
    go_enter Try.func5, Try.ntmps5
    go_wp2_with fail
    refine (HA.out _).mono ?_
    rintro e w1 ⟨rfl, hb⟩
    have H1 := Lib.hid hb
    clear hb HA
    go_wp2_with fail
    refine (HE.out _ H1.out).mono ?_
    rintro e w2 ⟨A, cA, B, cB, D, cD, rfl, -, -, -, hb, -⟩
    have H2 := Lib.hid (H1.out.trans (hb.mono H1.out.size))
    clear hb HE H1
    go_wp2_with fail
    go_ret
    exact ⟨rfl, H2.out⟩
  · rw [he] at HE
    obtain ⟨n, hn⟩ : ∃ n, xs.length = n := ⟨_, rfl⟩
    have hm : fs.length = n := by rw [hR.len, hn]
    have HPX := Lib.hid (fun W (hW : Below w.heap.size w W) => hx.below hW)
    have HN := Lib.hid hn
    have h16 : n ≤ 16 := by rw [← hn]; exact hR.few
    simp only [outL_length, outC_length] at HE
    rw [hn, hm] at HE
    rw [hn, hm]
    have HK := Lib.hid (fun k => fD_keeps hR n q k)
    have HT := Lib.hid (fun k => hR.turn0 k)
    have HZS := Lib.hid (fun k => fD_sizes (ms := List.replicate n 0) hR q k)
    have HSL := Lib.hid (outS_len (ms := List.replicate n 0) hR q)
    have HSB := Lib.hid (outS_bytes (ms := List.replicate n 0) hR (r := q))
    have HLN := Lib.hid (fun k (hk : k < n) => And.intro (outL_at (fs := fs) (ms := List.replicate n 0) q (by rw [hn]; exact hk)) (And.intro (outC_at (fs := fs) (ms := List.replicate n 0) q (by rw [hn]; exact hk)) (flow_outS (fs := fs) (ms := List.replicate n 0) (r := q) (by rw [hn]; exact hk))))
    have HLL := Lib.hid (And.intro ((outL_length xs fs (List.replicate n 0) q).trans hn) ((outC_length xs fs (List.replicate n 0) q).trans hn))
    generalize hS : outS xs fs (List.replicate n 0) q = S at *
    generalize hL : outL xs fs (List.replicate n 0) q = L at *
    generalize hC : outC xs fs (List.replicate n 0) q = C at *
    clear hx hy he hR hn hm hS hL hC
    go_enter Try.func5, Try.ntmps5
    go_wp2_with fail
    refine (HA.out _).mono ?_
    rintro e w1 ⟨rfl, hb⟩
    have H1 := Lib.hid hb
    clear hb HA
    go_wp2_with fail
    refine (HE.out _ H1.out).mono ?_
    rintro e w2 ⟨A, cA, B, cB, D, cD, rfl, hS, hL, hC, hb, -⟩
    have H2 := Lib.hid (And.intro (H1.out.trans (hb.mono H1.out.size)) (And.intro hS (And.intro hL hC)))
    clear hb HE H1 hS hL hC
    obtain ⟨sl, hsl⟩ : ∃ sl, S.length = sl := ⟨_, rfl⟩
    have HSN := Lib.hid hsl
    rw [hsl]
    clear hsl
    go_wp2_with fail
    go_loopg [32] n (fun z c wi => ∃ i : Nat, c = .int .i64 (i : Int) ∧ i + z = n ∧ Hid (Below w.heap.size w wi ∧ SentIn wi A S ∧ ListsIn wi B L ∧ IntsIn wi D C))
    case atStart => exact ⟨0, rfl, by omega, H2⟩
    case round =>
      clear H2
      obtain ⟨i, rfl, hik, HI⟩ := hrel
      cases gk with
      | zero =>
        obtain rfl : i = n := by omega
        have HB := Lib.hid HI.out.1
        clear HI HK HT HZS HSL HSB HLN HLL HSN HPX HN
        go_wp2_with fail
        go_ret
        exact ⟨rfl, HB.out⟩
      | succ z =>
        have hi : i < n := by omega
        have i1 : (i : Int) < (n : Int) := by omega
        obtain ⟨b0, o0, t, rfl, hx, cx0, -⟩ := (HPX.out _ HI.out.1).next (i := i) (by rw [HN.out]; exact hi)
        have hft := fn_at hx
        have HC1 := Lib.hid (sum_any HI.out.2.1 HSL.out HSB.out cA i)
        rw [HSN.out] at HC1
        have HKI := Lib.hid hik
        have HX := Lib.hid hft
        clear hx hft hik
        go_wp2_with fail
        refine HC1.out.mono ?_
        rintro e w3 ⟨rfl, hb⟩
        have H3 := Lib.hid (And.intro (HI.out.1.trans (hb.mono HI.out.1.size)) (And.intro (HI.out.2.1.below hb) (And.intro (HI.out.2.2.1.below hb) (HI.out.2.2.2.below hb))))
        clear hb HI HC1 cx0
        obtain ⟨e1, e2, e3⟩ := HLN.out i hi
        rw [e3]
        have hk := HK.out i
        have ht := HT.out i
        rw [HX.out] at hk ht
        have hzs := HZS.out i
        generalize fD xs fs (List.replicate n 0) q i = d at *
        obtain ⟨d1, d2, d3⟩ := d
        obtain ⟨p1, p2, p3⟩ := small_prod (a := (q : Int)) (b := t) (by omega) ht
        obtain ⟨b1, o1, f, B1, k1, rfl, g1, g2, g3, -, -⟩ := H3.out.2.2.1.next (i := i) (by rw [HLL.out.1]; exact hi)
        obtain ⟨b2, o2, m, rfl, g4, g5, -⟩ := H3.out.2.2.2.next (i := i) (by rw [HLL.out.2]; exact hi)
        rw [e1] at g1
        injection g1 with g1
        rw [e2] at g4
        injection g4 with g4
        dsimp only at g1 g4 hk hzs ⊢
        subst g1 g4
        have hmost := hk.most
        have hfair := hk.fair
        obtain ⟨R, q1, hR⟩ : ∃ R, IntKind.i64.wrap ((q : Int) * t) = R ∧ R = (q : Int) * t := ⟨_, rfl, p1⟩
        rw [← hR] at p2 p3 hmost hfair
        obtain ⟨T, hT⟩ : ∃ T, tt d1 = T := ⟨_, rfl⟩
        dsimp only at hmost hfair
        rw [hT] at hmost hfair ⊢
        have t1 : decide (R < T) = false := decide_eq_false (by omega)
        have HB := Lib.hid H3.out
        cases d2 with
        | nil =>
          clear hk hzs ht hmost hfair hT hR p1 p2 p3 e1 e2 e3 g3 H3 HK HT HZS HSL HSB HLN HPX HN HX
          simp only [List.length_nil] at g2
          go_upto_region 12 with fail
          go_quiet (fail)
          go_wp2_with fail
          go_roundg z
          case measure => omega
          case rel => exact ⟨i + 1, by go_num, by have := HKI.out; omega, Lib.hid ⟨below_drewN HB.out.1 _, HB.out.2.1.below (below_drewN (Below.refl _ _) _), HB.out.2.2.1.below (below_drewN (Below.refl _ _) _), HB.out.2.2.2.below (below_drewN (Below.refl _ _) _)⟩⟩
        | cons p s =>
          obtain ⟨f1, f2, f3⟩ := hfair p s rfl
          have hpb := hzs p (by simp)
          obtain ⟨b3, o3, p', rfl, h3, g6, -⟩ := g3.next (i := 0) (by simp)
          simp only [List.getElem?_cons_zero, Option.some.injEq] at h3
          subst h3
          rw [Nat.add_zero] at g6
          rw [List.length_cons] at g2
          generalize s.length = l at *
          have z1 : (0 : Int) < ((l + 1 : Nat) : Int) := by omega
          obtain ⟨R2, q2, hR2⟩ : ∃ R2, IntKind.i64.wrap (R - 1500) = R2 ∧ R2 = R - 1500 := ⟨_, rfl, wrap_in (by omega) (by omega)⟩
          have q3 : IntKind.i64.wrap (T + d3) = R := by rw [wrap_in (by omega) (by omega)]; exact f1
          have t2 : decide (T ≤ R2) = false := decide_eq_false (by omega)
          have t3 : decide (p ≤ d3) = false := decide_eq_false (by omega)
          clear hk hzs ht hmost hfair hT hR p1 p2 p3 e1 e2 e3 g3 H3 HK HT HZS HSL HSB HLN HPX HN HX hR2 f1 f2 f3 hpb
          go_upto_region 12 with fail
          go_quiet (fail)
          go_wp2_with fail
          go_roundg z
          case measure => omega
          case rel => exact ⟨i + 1, by go_num, by have := HKI.out; omega, Lib.hid ⟨below_drewN HB.out.1 _, HB.out.2.1.below (below_drewN (Below.refl _ _) _), HB.out.2.2.1.below (below_drewN (Below.refl _ _) _), HB.out.2.2.2.below (below_drewN (Below.refl _ _) _)⟩⟩
theorem drrFair_walk {w : World} {P Q : Option Addr} {xs : List Int} {fs : List (List Int)} {n m : Nat} (hx : IntsIn w P xs) (h1 : xs.length = n) (hy : ListsIn w Q fs) (h2 : fs.length = m) (cx cy : Nat) (r : Int) :
    Calls Try.prog 5 #[.slice P n cx, .slice Q m cy, .int .i64 r] w fun e w' => e = .returned (.bool true) ∧ Below w.heap.size w w' := by
  subst h1 h2
  exact drrFair_law hx hy cx cy r
end Go.Proofs.Ytgphbplmkegdeaa
