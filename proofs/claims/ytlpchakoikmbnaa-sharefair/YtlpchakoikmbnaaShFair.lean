/- ShareFair: nobody can have more but of one who has no more. -/
import Derived.Test.YtlpchakoikmbnaaShMore
namespace Go.Proofs.Ytlpchakoikmbnaa
open Go.RowKit Go.Maps

/-- Does somebody else, i, have less, who has no more than k by its weight? -/
def lessOf (w v y : Nat → Int) (N D : Int) (k i : Nat) : Bool := decide (y i * gD w v N D i < gN w v N D i) && decide (gN w v N D i * v k * gD w v N D k ≤ gN w v N D k * v i * gD w v N D i)
def someOf (w v y : Nat → Int) (N D : Int) (k i : Nat) : Bool := (List.range i).any (lessOf w v y N D k)
theorem someOf_succ (w v y : Nat → Int) (N D : Int) (k i : Nat) : someOf w v y N D k (i + 1) = (someOf w v y N D k i || lessOf w v y N D k i) := by
  unfold someOf
  rw [List.range_succ, List.any_append]
  simp
theorem someOf_true {w v y : Nat → Int} {N D : Int} {k i n : Nat} (hi : i < n) (h1 : y i * gD w v N D i < gN w v N D i) (h2 : gN w v N D i * v k * gD w v N D k ≤ gN w v N D k * v i * gD w v N D i) : someOf w v y N D k n = true := by
  unfold someOf
  rw [List.any_eq_true]
  exact ⟨i, List.mem_range.2 hi, by unfold lessOf; rw [decide_eq_true h1, decide_eq_true h2]; rfl⟩
theorem mul3 {a b c : Int} (ha : 0 ≤ a ∧ a ≤ 1048576000) (hb : 0 ≤ b ∧ b ≤ 1000) (hc : 1 ≤ c ∧ c ≤ 16000) : ∃ S T, IntKind.i64.wrap (a * b) = S ∧ IntKind.i64.wrap (S * c) = T ∧ T = a * b * c := by
  have h1 := Int.mul_nonneg ha.1 hb.1
  have h2 : a * b ≤ 1048576000 * 1000 := Int.mul_le_mul ha.2 hb.2 hb.1 (by decide)
  have h3 := Int.mul_nonneg h1 (show 0 ≤ c by omega)
  have h4 : a * b * c ≤ 1048576000 * 1000 * 16000 := Int.mul_le_mul h2 hc.2 (by omega) (by decide)
  exact ⟨a * b, a * b * c, wrap_in (by omega) (by omega), wrap_in (by omega) (by omega), rfl⟩
theorem mul2 {a b : Int} (ha : 0 ≤ a ∧ a ≤ 1048576) (hb : 1 ≤ b ∧ b ≤ 16000) : ∃ S, IntKind.i64.wrap (a * b) = S ∧ S = a * b := ⟨_, rfl, mul_wrap (by omega) (by omega)⟩

set_option maxRecDepth 100000 in
set_option maxHeartbeats 16000000 in
theorem shareFair_bad {w : World} {P Q O : Option Addr} {xs ys : List Int} {n m : Nat} (hx : IntsIn w P xs) (hn : xs.length = n) (hy : IntsIn w Q ys) (hm : ys.length = m) (o cx cy co : Nat) (A : Int) {gs : List (Int × Int)} {E N D : Int} (hG : Gv A xs ys gs E N D) (hbad : (E != 0) = true ∨ (E = 0 ∧ gs.length = n ∧ o ≠ n)) :
    Calls Try.prog 5 #[.int .i64 A, .slice P n cx, .slice Q m cy, .slice O o co] w fun e w' => e = .returned (.bool true) ∧ Below w.heap.size w w' := by
  have HA := Lib.hid alive12_any
  have HG := Lib.hid (fun W (hW : Below w.heap.size w W) => hG.gets (hx.below hW) (hy.below hW) cx cy)
  unfold Got at HG
  rw [hn, hm] at HG
  obtain ⟨q, hq⟩ : ∃ q, gs.length = q := ⟨_, rfl⟩
  rw [hq] at HG hbad
  clear hG hx hy hn hm hq
  rcases hbad with hE | ⟨rfl, rfl, hne⟩
  · go_enter Try.func5, Try.ntmps5
    go_wp2_with fail
    refine (HA.out _).mono ?_
    rintro e w1 ⟨rfl, hb⟩
    have H1 := Lib.hid hb
    clear hb HA
    go_wp2_with fail
    refine (HG.out _ H1.out).mono ?_
    rintro e w2 ⟨R, c, rfl, _, hb, _, _⟩
    have H2 := Lib.hid (H1.out.trans (hb.mono H1.out.size))
    clear hb HG H1
    go_wp2_with fail
    go_ret
    exact ⟨rfl, H2.out⟩
  · have e1 : ((o : Int) != (q : Int)) = true := by simp; omega
    clear hne
    go_enter Try.func5, Try.ntmps5
    go_wp2_with fail
    refine (HA.out _).mono ?_
    rintro e w1 ⟨rfl, hb⟩
    have H1 := Lib.hid hb
    clear hb HA
    go_wp2_with fail
    refine (HG.out _ H1.out).mono ?_
    rintro e w2 ⟨R, c, rfl, _, hb, _, _⟩
    have H2 := Lib.hid (H1.out.trans (hb.mono H1.out.size))
    clear hb HG H1
    go_wp2_with fail
    go_ret
    exact ⟨rfl, H2.out⟩
set_option maxRecDepth 100000 in
set_option maxHeartbeats 32000000 in
theorem shareFair_ok {w : World} {P Q O : Option Addr} {xs ys zs : List Int} {n : Nat} (hx : IntsIn w P xs) (hn : xs.length = n) (hy : IntsIn w Q ys) (hm : ys.length = n) (hz : IntsIn w O zs) (ho : zs.length = n) (cx cy co : Nat) (A : Int) {N D : Int} (hR : Right A xs ys) (hL : Level A (fn xs) (fn ys) xs.length N D) :
    Calls Try.prog 5 #[.int .i64 A, .slice P n cx, .slice Q n cy, .slice O n co] w fun e w' => e = .returned (.bool true) ∧ Below w.heap.size w w' := by
  have HA := Lib.hid alive12_any
  have HG := Lib.hid (fun W (hW : Below w.heap.size w W) => gets_ok (hx.below hW) (hy.below hW) cx cy hR hL)
  unfold Got at HG
  rw [gets_length, hn, hm] at HG
  have h16 : n ≤ 16 := by rw [← hn]; exact hR.few
  have HPX := Lib.hid (fun W (hW : Below w.heap.size w W) => hx.below hW)
  have HPY := Lib.hid (fun W (hW : Below w.heap.size w W) => hy.below hW)
  have HPZ := Lib.hid (fun W (hW : Below w.heap.size w W) => hz.below hW)
  have HN := Lib.hid (And.intro hn (And.intro hm ho))
  have HRT := Lib.hid hR
  rw [hn] at hL
  have HLT := Lib.hid hL
  have HGB := Lib.hid (fun k (hk : k < n) => g_bounds hR (hn.symm ▸ hL) (k := k) (by omega))
  clear hx hy hz hn hm ho hR hL
  go_enter Try.func5, Try.ntmps5
  go_wp2_with fail
  refine (HA.out _).mono ?_
  rintro e w1 ⟨rfl, hb⟩
  have H1 := Lib.hid hb
  clear hb HA
  go_wp2_with fail
  refine (HG.out _ H1.out).mono ?_
  rintro e w2 ⟨R, c, rfl, hR, hb, _, _⟩
  have H2 := Lib.hid (And.intro (H1.out.trans (hb.mono H1.out.size)) hR)
  clear hb HG H1 hR
  have e0 : ((n : Int) != (n : Int)) = false := by simp
  go_wp2_with fail
  clear e0
  go_loopg [11, 55] n (fun z s c wr => ∃ (i : Nat) (S : Int), s = .int .i64 S ∧ c = .int .i64 (i : Int) ∧ i + z = n ∧ wr = w2 ∧ Hid (S = su (fn zs) i ∧ ∀ j, j < i → 0 ≤ fn zs j ∧ fn zs j ≤ fn xs j))
  case atStart => exact ⟨0, 0, rfl, rfl, by omega, rfl, Lib.hid ⟨rfl, fun j hj => absurd hj (by omega)⟩⟩
  case round =>
    obtain ⟨i, S, rfl, rfl, hik, rfl, HI⟩ := hrel
    cases gk with
    | zero =>
      obtain rfl : i = n := by omega
      by_cases hSA : A < S
      · have HZ := Lib.hid H2.out.1
        clear HPX HPY HPZ HN HRT HLT HGB H2 HI
        go_wp2_with fail
        go_ret
        exact ⟨rfl, HZ.out⟩
      · have HSA : Hid (su (fn zs) i ≤ A) := Lib.hid (by rw [← HI.out.1]; omega)
        go_wp2_with fail
        clear hSA
        go_loopg [79, 16, 99] i (fun z c u v wr' => ∃ k t : Nat, c = .int .i64 (k : Int) ∧ k + z = i ∧ wr' = wr.drewN t)
        case atStart => exact ⟨0, 0, rfl, by omega, rfl⟩
        case round =>
          obtain ⟨k, t, rfl, hkk, rfl⟩ := hrel
          cases gk with
          | zero =>
            obtain rfl : k = i := by omega
            have HZ := Lib.hid H2.out.1
            clear HPX HPY HPZ HN HRT HLT HGB H2 HI HSA
            go_wp2_with fail
            go_ret
            exact ⟨rfl, below_drewN HZ.out _⟩
          | succ z =>
            have hk : k < i := by omega
            have k1 : (k : Int) < (i : Int) := by omega
            have HKK := Lib.hid hkk
            clear hkk hik
            obtain ⟨gz, oz, y, rfl, hy, hcy, _⟩ := (HPZ.out _ H2.out.1).next (i := k) (by rw [HN.out.2.2]; exact hk)
            have hgk := gets_at (w := fn xs) (v := fn ys) (N := N) (D := D) hk
            obtain ⟨gr, og, rfl, ⟨c0, c1⟩, -⟩ := H2.out.2.two hgk hgk
            have hfy := fn_at hy
            have hyb := HI.out.2 k hk
            have hxb := HRT.out.want0 k
            have hgb := HGB.out k hk
            rw [hfy] at hyb
            obtain ⟨nk, hnk⟩ : ∃ nk, gN (fn xs) (fn ys) N D k = nk := ⟨_, rfl⟩
            obtain ⟨dk, hdk⟩ : ∃ dk, gD (fn xs) (fn ys) N D k = dk := ⟨_, rfl⟩
            rw [hnk] at c0
            rw [hdk] at c1
            rw [hnk, hdk] at hgb
            obtain ⟨P1, q1, hP1⟩ := mul2 (a := y) (b := dk) (by omega) (by omega)
            have HK := Lib.hid (And.intro hnk (And.intro hdk (And.intro hP1 hfy)))
            have HBK := Lib.hid hgb
            clear hnk hdk hP1 hfy hyb hxb hgb hgk hy
            cases hc : decide (P1 ≤ nk) with
            | true =>
              have HC := Lib.hid hc
              clear hc
              go_wp2_with fail
              go_quiet (fail)
              try rw [HC.out]
              go_wp2_with fail
              go_roundg z
              case measure => omega
              case rel => exact ⟨k + 1, t + nq, by go_num, by have := HKK.out; omega, rfl⟩
            | false =>
              have HC := Lib.hid hc
              have hle := of_decide_eq_false hc
              have HS : Hid (someOf (fn xs) (fn ys) (fn zs) N D k i = true) := Lib.hid (by
                obtain ⟨j, hj, j1, j2⟩ := g_other HLT.out (fun j hj => (HRT.out.weight (by rw [HN.out.1]; exact hj)).1) (fun j hj => (HI.out.2 j hj).2) HSA.out hk (show gN (fn xs) (fn ys) N D k < fn zs k * gD (fn xs) (fn ys) N D k by rw [HK.out.1, HK.out.2.1, HK.out.2.2.2, ← HK.out.2.2.1]; omega)
                exact someOf_true hj j1 j2)
              clear hle hc
              go_wp2_with fail
              go_quiet (fail)
              try rw [HC.out]
              clear q1 hcy c0 c1
              go_wp2_with fail
              go_loopg [16, 99] i (fun z2 s c wr2 => ∃ j t2 : Nat, s = .bool (someOf (fn xs) (fn ys) (fn zs) N D k j) ∧ c = .int .i64 (j : Int) ∧ j + z2 = i ∧ wr2 = wr.drewN t2)
              case atStart => exact ⟨0, t + nq, rfl, rfl, by omega, rfl⟩
              case round =>
                obtain ⟨j, t2, rfl, rfl, hjk, rfl⟩ := hrel
                cases gk with
                | zero =>
                  obtain rfl : j = i := by omega
                  rw [HS.out]
                  clear HS HBK HK
                  go_wp2_with fail
                  go_roundg z
                  case measure => omega
                  case rel => exact ⟨k + 1, t2, by go_num, by have := HKK.out; omega, rfl⟩
                | succ z2 =>
                  have hj : j < i := by omega
                  have j1 : (j : Int) < (i : Int) := by omega
                  have HJK := Lib.hid hjk
                  clear hjk
                  have hzat := (HPZ.out _ H2.out.1).two (i := j) (j := j) (by rw [HN.out.2.2]; exact hj) (by rw [HN.out.2.2]; exact hj)
                  obtain ⟨gz', oz', ez, hcz, -⟩ := hzat
                  injection ez with ez
                  simp only [Addr.mk.injEq, and_true] at ez
                  obtain ⟨rfl, rfl⟩ := ez
                  have hgk := gets_at (w := fn xs) (v := fn ys) (N := N) (D := D) hk
                  have hgj := gets_at (w := fn xs) (v := fn ys) (N := N) (D := D) hj
                  obtain ⟨gr', og', er, ⟨c0, c1⟩, c2, c3⟩ := H2.out.2.two hgk hgj
                  injection er with er
                  simp only [Addr.mk.injEq, and_true] at er
                  obtain ⟨rfl, rfl⟩ := er
                  obtain ⟨gy, oy, rfl, w0, w1⟩ := (HPY.out _ H2.out.1).two (i := k) (j := j) (by rw [HN.out.2.1]; exact hk) (by rw [HN.out.2.1]; exact hj)
                  have HL1 : Hid (someOf (fn xs) (fn ys) (fn zs) N D k (j + 1) = (someOf (fn xs) (fn ys) (fn zs) N D k j || lessOf (fn xs) (fn ys) (fn zs) N D k j)) := Lib.hid (someOf_succ _ _ _ _ _ _ _)
                  have hlo : lessOf (fn xs) (fn ys) (fn zs) N D k j = (decide (fn zs j * gD (fn xs) (fn ys) N D j < gN (fn xs) (fn ys) N D j) && decide (gN (fn xs) (fn ys) N D j * fn ys k * gD (fn xs) (fn ys) N D k ≤ gN (fn xs) (fn ys) N D k * fn ys j * gD (fn xs) (fn ys) N D j)) := rfl
                  have hgb := HGB.out j hj
                  have hgb2 := HGB.out k hk
                  have hvk := HRT.out.weight0 k
                  have hvj := HRT.out.weight0 j
                  have hyj := HI.out.2 j hj
                  have hxj := HRT.out.want0 j
                  generalize someOf (fn xs) (fn ys) (fn zs) N D k j = J1 at *
                  generalize lessOf (fn xs) (fn ys) (fn zs) N D k j = J0 at *
                  generalize gN (fn xs) (fn ys) N D j = nj at *
                  generalize gD (fn xs) (fn ys) N D j = dj at *
                  generalize gN (fn xs) (fn ys) N D k = n2 at *
                  generalize gD (fn xs) (fn ys) N D k = d2 at *
                  generalize fn ys k = vk at *
                  generalize fn ys j = vj at *
                  generalize fn zs j = yj at *
                  generalize fn xs j = xj at *
                  clear hgk hgj
                  cases J1 with
                  | true =>
                    have HE : Hid (someOf (fn xs) (fn ys) (fn zs) N D k (j + 1) = true) := Lib.hid (by rw [HL1.out]; rfl)
                    clear hlo hgb hgb2 hvk hvj hyj hxj HL1 c0 c1 c2 c3 w0 w1
                    go_wp2_with fail
                    go_quiet (fail)
                    go_wp2_with fail
                    go_roundg z2
                    case measure => omega
                    case rel => exact ⟨j + 1, t2 + nq, by rw [HE.out], by go_num, by have := HJK.out; omega, rfl⟩
                  | false =>
                    obtain ⟨P1, q1, hP1⟩ := mul2 (a := yj) (b := dj) (by omega) (by omega)
                    rw [← hP1] at hlo
                    clear hP1
                    cases hc1 : decide (P1 < nj) with
                    | false =>
                      rw [hc1, Bool.false_and] at hlo
                      have HE : Hid (someOf (fn xs) (fn ys) (fn zs) N D k (j + 1) = false) := Lib.hid (by rw [HL1.out, hlo]; rfl)
                      clear hlo hgb hgb2 hvk hvj hyj hxj HL1 c0 c1 w0 w1
                      go_wp2_with fail
                      go_quiet (fail)
                      go_wp2_with fail
                      go_roundg z2
                      case measure => omega
                      case rel => exact ⟨j + 1, t2 + nq, by rw [HE.out], by go_num, by have := HJK.out; omega, rfl⟩
                    | true =>
                      obtain ⟨S1, T1, q2, q3, hT1⟩ := mul3 (a := nj) (b := vk) (c := d2) hgb.1 (by omega) hgb2.2
                      obtain ⟨S2, T2, q4, q5, hT2⟩ := mul3 (a := n2) (b := vj) (c := dj) hgb2.1 (by omega) hgb.2
                      rw [hc1, ← hT1, ← hT2, Bool.true_and] at hlo
                      have HE : Hid (someOf (fn xs) (fn ys) (fn zs) N D k (j + 1) = decide (T1 ≤ T2)) := Lib.hid (by rw [HL1.out, hlo]; rfl)
                      clear hlo hgb hgb2 hvk hvj hyj hxj HL1 hT1 hT2
                      go_wp2_with fail
                      go_quiet (fail)
                      go_wp2_with fail
                      go_roundg z2
                      case measure => omega
                      case rel => exact ⟨j + 1, t2 + nq, by rw [HE.out], by go_num, by have := HJK.out; omega, rfl⟩
    | succ z =>
      have hi : i < n := by omega
      have i1 : (i : Int) < (n : Int) := by omega
      obtain ⟨gz, oz, y, rfl, hy, hcy, _⟩ := (HPZ.out _ H2.out.1).next (i := i) (by rw [HN.out.2.2]; exact hi)
      obtain ⟨gx, ox, x, rfl, hx, hcx, _⟩ := (HPX.out _ H2.out.1).next (i := i) (by rw [HN.out.1]; exact hi)
      have hfy := fn_at hy
      have hfx := fn_at hx
      have hxb := HRT.out.want0 i
      rw [hfx] at hxb
      clear hy hx
      by_cases hy0 : y < 0
      · have HZ := Lib.hid H2.out.1
        clear HPX HPY HPZ HN HRT HLT HGB H2 HI hfy hfx hxb
        go_wp2_with fail
        go_ret
        exact ⟨rfl, HZ.out⟩
      · by_cases hyx : x < y
        · have HZ := Lib.hid H2.out.1
          clear HPX HPY HPZ HN HRT HLT HGB H2 HI hfy hfx hxb
          go_wp2_with fail
          go_ret
          exact ⟨rfl, HZ.out⟩
        · have hS0 : 0 ≤ S := by rw [HI.out.1]; exact su_nonneg fun j hj => (HI.out.2 j hj).1
          have hS1 : S ≤ 1048576 * (i : Int) := by
            rw [HI.out.1]
            exact su_bound fun j hj => Int.le_trans (HI.out.2 j hj).2 (HRT.out.want0 j).2
          have q1 : wrap64 (S + y) = S + y := IntWalk.wrap64_in _ (by constructor <;> omega)
          have HQ : Hid (S + y = su (fn zs) (i + 1) ∧ ∀ j, j < i + 1 → 0 ≤ fn zs j ∧ fn zs j ≤ fn xs j) := Lib.hid (by
            refine ⟨by rw [su_succ, hfy, ← HI.out.1], fun j hj => ?_⟩
            by_cases e : j = i
            · subst e
              rw [hfy, hfx]
              omega
            · exact HI.out.2 j (by omega))
          clear hfy hfx hxb hS0 hS1 HI
          go_wp2_with fail
          go_roundg z
          case measure => omega
          case rel => exact ⟨i + 1, S + y, rfl, by go_num, by omega, rfl, HQ⟩
theorem shareFair_law {w : World} {P Q O : Option Addr} {xs ys zs : List Int} {n m o : Nat} (hx : IntsIn w P xs) (hn : xs.length = n) (hy : IntsIn w Q ys) (hm : ys.length = m) (hz : IntsIn w O zs) (ho : zs.length = o) (cx cy co : Nat) (A : Int) :
    Calls Try.prog 5 #[.int .i64 A, .slice P n cx, .slice Q m cy, .slice O o co] w fun e w' => e = .returned (.bool true) ∧ Below w.heap.size w w' := by
  obtain ⟨gs, E, N, D, hG⟩ := gv_any A xs ys
  rcases hG.way with ⟨h12, _⟩ | ⟨hE, hR, hL, hgs⟩
  · exact shareFair_bad hx hn hy hm o cx cy co A hG (.inl (by rcases h12 with rfl | rfl <;> rfl))
  · have hl : gs.length = n := by rw [hgs, gets_length, hn]
    by_cases h : o = n
    · subst h
      obtain rfl : m = o := by rw [← hm, hR.len, hn]
      exact shareFair_ok hx hn hy hm hz ho cx cy co A hR hL
    · exact shareFair_bad hx hn hy hm o cx cy co A hG (.inr ⟨hE, hl, h⟩)
end Go.Proofs.Ytlpchakoikmbnaa
