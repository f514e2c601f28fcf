/- GpsMore: who has more is done no sooner, and makes nobody sooner; a greater weight makes it no later. -/
import Derived.Test.YtemoleopabddnaaGpSet
namespace Go.Proofs.Ytemoleopabddnaa
open Go.RowKit Go.Maps

/-- What End of more bytes answers. -/
theorem more_bytes {xs ys : List Int} (hR : Right xs ys) {k : Nat} (hk : k < xs.length) {more : Int} (h0 : 0 ≤ more) {U : Int} (hU : U = fn xs k + more) (h : (endOf (xs.set k U) ys).2 = 0) :
    (endOf (xs.set k U) ys).1.length = xs.length ∧ ∀ (j : Nat) (x y : Int), (ends xs ys)[j]? = some x → (endOf (xs.set k U) ys).1[j]? = some y → x ≤ y := by
  rcases end_way (xs.set k U) ys with ⟨h12, e⟩ | ⟨_, hR2, e⟩
  · rw [e] at h
    have h : wrongL (xs.set k U) ys = 0 := h
    omega
  · rw [e]
    refine ⟨by rw [ends_length, List.length_set], fun j x y hx hy => ?_⟩
    have hj := lt_of_some hx
    rw [ends_length] at hj
    rw [ends_get hx, ends_get hy, List.length_set]
    refine gT_bytes (fun i hi => (hR.weight0 i).1) hj fun i hi => ?_
    rw [fn_set hk]
    by_cases c : i = k
    · rw [if_pos c, hU, c]; omega
    · rw [if_neg c]; exact Int.le_refl _
theorem big_prod {a b : Int} (ha : 0 ≤ a ∧ a ≤ 16777216000) (hb : 0 ≤ b ∧ b ≤ 2000) : IntKind.i64.wrap (a * b) = a * b := by
  have h1 := Int.mul_nonneg ha.1 hb.1
  have h2 : a * b ≤ 16777216000 * 2000 := Int.mul_le_mul ha.2 hb.2 hb.1 (by decide)
  exact wrap_in (by omega) (by omega)
/-- What End of a greater weight answers. -/
theorem more_weight {xs ys : List Int} (hR : Right xs ys) {k : Nat} (hk : k < xs.length) {more : Int} (h0 : 0 ≤ more) (h1 : more ≤ 1000) {V : Int} (hV : V = fn ys k + more) (h : (endOf xs (ys.set k V)).2 = 0) :
    (endOf xs (ys.set k V)).1.length = xs.length ∧ ∀ (a1 a3 v v2 : Int), (ends xs ys)[k]? = some a1 → (endOf xs (ys.set k V)).1[k]? = some a3 → ys[k]? = some v → (ys.set k V)[k]? = some v2 →
      IntKind.i64.wrap (a3 * v) = a3 * v ∧ IntKind.i64.wrap (a1 * v2) = a1 * v2 ∧ a3 * v ≤ a1 * v2 := by
  have hk2 : k < ys.length := by rw [hR.len]; exact hk
  rcases end_way xs (ys.set k V) with ⟨h12, e⟩ | ⟨_, hR2, e⟩
  · rw [e] at h
    have h : wrongL xs (ys.set k V) = 0 := h
    omega
  · rw [e]
    refine ⟨ends_length _ _, fun a1 a3 v v2 g1 g3 gq g2 => ?_⟩
    have s1 := gT_small hR k
    have s3 := gT_small hR2 k
    have e1 := fn_at gq
    have e2 := fn_at g2
    have w1 := hR.weight0 k
    have w2 := hR2.weight0 k
    rw [ends_get g1, ends_get g3, ← e1, ← e2]
    refine ⟨big_prod s3 (by omega), big_prod s1 (by omega), ?_⟩
    refine gT_weight (fun j hj => (hR.weight0 j).1) (fun j hj => (hR.want0 j).1) hk (fun j hj hne => ?_) ?_
    · rw [fn_set hk2, if_neg hne]
    · rw [fn_set hk2, if_pos rfl, hV]; omega

set_option maxRecDepth 100000 in
set_option maxHeartbeats 16000000 in
theorem gpsMore_law {w : World} {P Q : Option Addr} {xs ys : List Int} {n m : Nat} (hx : IntsIn w P xs) (hn : xs.length = n) (hy : IntsIn w Q ys) (hm : ys.length = m) (hpn : P = none → xs = []) (hqn : Q = none → ys = []) (hxl : xs.length * 8 ≤ 140737488355328) (hyl : ys.length * 8 ≤ 140737488355328) (cx cy : Nat) (who more : Int) :
    Calls Try.prog 7 #[.slice P n cx, .slice Q m cy, .int .i64 who, .int .i64 more] w fun e w' => e = .returned (.bool true) ∧ Below w.heap.size w w' := by
  have HA := Lib.hid alive13_any
  by_cases c1 : who < 0
  · clear hx hn hy hm hpn hqn hxl hyl
    go_enter Try.func7, Try.ntmps7
    go_wp2_with fail
    refine (HA.out _).mono ?_
    rintro e w1 ⟨rfl, hb⟩
    have H1 := Lib.hid hb
    clear hb HA
    go_wp2_with fail
    go_ret
    exact ⟨rfl, H1.out⟩
  · by_cases c2 : (n : Int) ≤ who
    · clear hx hn hy hm hpn hqn hxl hyl
      go_enter Try.func7, Try.ntmps7
      go_wp2_with fail
      refine (HA.out _).mono ?_
      rintro e w1 ⟨rfl, hb⟩
      have H1 := Lib.hid hb
      clear hb HA
      go_wp2_with fail
      go_ret
      exact ⟨rfl, H1.out⟩
    · by_cases c3 : (m : Int) ≤ who
      · clear hx hn hy hm hpn hqn hxl hyl
        go_enter Try.func7, Try.ntmps7
        go_wp2_with fail
        refine (HA.out _).mono ?_
        rintro e w1 ⟨rfl, hb⟩
        have H1 := Lib.hid hb
        clear hb HA
        go_wp2_with fail
        go_ret
        exact ⟨rfl, H1.out⟩
      · by_cases c4 : more < 0
        · clear hx hn hy hm hpn hqn hxl hyl
          go_enter Try.func7, Try.ntmps7
          go_wp2_with fail
          refine (HA.out _).mono ?_
          rintro e w1 ⟨rfl, hb⟩
          have H1 := Lib.hid hb
          clear hb HA
          go_wp2_with fail
          go_ret
          exact ⟨rfl, H1.out⟩
        · by_cases c5 : 1000 < more
          · clear hx hn hy hm hpn hqn hxl hyl
            go_enter Try.func7, Try.ntmps7
            go_wp2_with fail
            refine (HA.out _).mono ?_
            rintro e w1 ⟨rfl, hb⟩
            have H1 := Lib.hid hb
            clear hb HA
            go_wp2_with fail
            go_ret
            exact ⟨rfl, H1.out⟩
          · obtain ⟨k, rfl⟩ : ∃ k : Nat, who = k := ⟨who.toNat, by omega⟩
            replace c2 : k < n := by omega
            replace c3 : k < m := by omega
            have c6 : ¬ n ≤ k := by omega
            have c7 : ¬ m ≤ k := by omega
            clear c1
            obtain ⟨U, hU⟩ : ∃ U, wrap64 (fn xs k + more) = U := ⟨_, rfl⟩
            obtain ⟨V, hV⟩ : ∃ V, wrap64 (fn ys k + more) = V := ⟨_, rfl⟩
            have i1 : (k : Int) < (n : Int) := by omega
            have i2 : (k : Int) < (m : Int) := by omega
            have HC1 := Lib.hid (fun W (hW : Below w.heap.size w W) => clone_any (hx.below hW) cx hpn hxl)
            have HC2 := Lib.hid (fun W (hW : Below w.heap.size w W) => clone_any (hy.below hW) cy hqn hyl)
            have HE1 := Lib.hid (fun W (hW : Below w.heap.size w W) => end_any (hx.below hW) (hy.below hW) cx cy)
            have HE2 := Lib.hid (fun W R c (hW : Below w.heap.size w W) (h : IntsIn W R (xs.set k U)) => end_any h (hy.below hW) c cy)
            have HE3 := Lib.hid (fun W R c (hW : Below w.heap.size w W) (h : IntsIn W R (ys.set k V)) => end_any (hx.below hW) h cx c)
            have HPX := Lib.hid (fun W (hW : Below w.heap.size w W) => hx.below hW)
            have HPY := Lib.hid (fun W (hW : Below w.heap.size w W) => hy.below hW)
            have HS := Lib.hid (And.intro hxl hyl)
            have HN := Lib.hid (And.intro hn hm)
            unfold ClonedI at HC1 HC2
            unfold Got at HE1 HE2 HE3
            simp only [List.length_set] at HE2 HE3
            rw [hn] at HC1 HE1 HE2 HE3
            rw [hm] at HC2 HE1 HE2 HE3
            obtain ⟨L2, hL2⟩ : ∃ L, (endOf (xs.set k U) ys).1 = L := ⟨_, rfl⟩
            obtain ⟨E2, hE2⟩ : ∃ E, (endOf (xs.set k U) ys).2 = E := ⟨_, rfl⟩
            obtain ⟨L3, hL3⟩ : ∃ L, (endOf xs (ys.set k V)).1 = L := ⟨_, rfl⟩
            obtain ⟨E3, hE3⟩ : ∃ E, (endOf xs (ys.set k V)).2 = E := ⟨_, rfl⟩
            rw [hL2, hE2] at HE2
            rw [hL3, hE3] at HE3
            rcases end_way xs ys with ⟨h12, he⟩ | ⟨h0, hR, he⟩
            · have hE : (wrongL xs ys != 0) = true := by rcases h12 with h | h <;> rw [h] <;> rfl
              rw [he] at HE1
              simp only [List.length_nil] at HE1
              generalize wrongL xs ys = E at *
              clear hx hy hpn hqn hxl hyl hn hm h12 he hL2 hE2 hL3 hE3 HPX HPY
              go_enter Try.func7, Try.ntmps7
              go_wp2_with fail
              refine (HA.out _).mono ?_
              rintro e w1 ⟨rfl, hb⟩
              have H1 := Lib.hid hb
              clear hb HA
              go_wp2_with fail
              refine (HC1.out _ H1.out).mono ?_
              rintro e w2 ⟨X, kx, rfl, hX, hb⟩
              have H2 := Lib.hid (And.intro (H1.out.trans (hb.mono H1.out.size)) (And.intro hX hb))
              clear hb HC1 hX
              go_wp2_with fail
              refine (HC2.out _ H2.out.1).mono ?_
              rintro e w3 ⟨Y, ky, rfl, hY, hb⟩
              have H3 := Lib.hid (And.intro (H2.out.1.trans (hb.mono H2.out.1.size)) (And.intro (H2.out.2.1.below hb) (And.intro hY (And.intro hb.size H2.out.2.2.size))))
              have HKX := Lib.hid H2.out.2.1.ab
              clear hb HC2 hY H2
              obtain ⟨gx, ox, rfl, bx, lx, c0, c1, hX2, hcX⟩ := H3.out.2.1.put (i := k) (by rw [HN.out.1]; exact c2) U
              have hXY : ∀ g, Ab Y g → ¬ g = gx := fun g hg e => by
                have h1 := (H3.out.2.2.1.ab g hg).1
                have h2 := (HKX.out gx ⟨_, rfl, rfl⟩).2
                omega
              have hY2 := H3.out.2.2.1.chg hcX (fun g hg e => hXY g hg e)
              obtain ⟨gy, oy, rfl, by_, ly, d0, d1, hY3, hcY⟩ := hY2.put (i := k) (by rw [HN.out.2]; exact c3) V
              have hX3 := hX2.chg hcY (fun g hg e => by
                obtain ⟨a, ea, rfl⟩ := hg
                injection ea with ea
                subst ea
                exact hXY gy ⟨_, rfl, rfl⟩ e.symm)
              have H5 : Hid (Below w.heap.size w ((w3.setCell ⟨gx, ox + k, none⟩ (.int .i64 U)).setCell ⟨gy, oy + k, none⟩ (.int .i64 V)) ∧ IntsIn ((w3.setCell ⟨gx, ox + k, none⟩ (.int .i64 U)).setCell ⟨gy, oy + k, none⟩ (.int .i64 V)) (some ⟨gx, ox, none⟩) (xs.set k U) ∧ IntsIn ((w3.setCell ⟨gx, ox + k, none⟩ (.int .i64 U)).setCell ⟨gy, oy + k, none⟩ (.int .i64 V)) (some ⟨gy, oy, none⟩) (ys.set k V)) := Lib.hid (by
                have s1 := H1.out.size
                refine ⟨?_, hX3.ints (by rw [List.length_set]; have := HS.out.1; omega), hY3.ints (by rw [List.length_set]; have := HS.out.2; omega)⟩
                exact (H3.out.1.setCell (p := ⟨gx, ox + k, none⟩) (by show w.heap.size ≤ gx; omega) _).setCell (p := ⟨gy, oy + k, none⟩) (by show w.heap.size ≤ gy; have := H3.out.2.2.2.2; omega) _)
              clear hX2 hcX hXY hY2 hY3 hX3 hcY H3 HKX H1 bx by_ lx ly HS
              go_upto_region 8 with fail
              clear c0 c1 d0 d1
              generalize (w3.setCell ⟨gx, ox + k, none⟩ (.int .i64 U)).setCell ⟨gy, oy + k, none⟩ (.int .i64 V) = w5 at *
              go_wp2_with fail
              refine (HE1.out _ H5.out.1).mono ?_
              rintro e w6 ⟨R1, r1, rfl, hr, hb⟩
              have H6 := Lib.hid (And.intro (H5.out.1.trans (hb.mono H5.out.1.size)) (And.intro (H5.out.2.1.below hb) (And.intro (H5.out.2.2.below hb) hr)))
              clear hb hr H5 HE1
              go_wp2_with fail
              refine (HE2.out _ _ _ H6.out.1 H6.out.2.1).mono ?_
              rintro e w7 ⟨R2, r2, rfl, hr, hb⟩
              have H7 := Lib.hid (And.intro (H6.out.1.trans (hb.mono H6.out.1.size)) (And.intro (H6.out.2.2.1.below hb) (And.intro (H6.out.2.2.2.below hb) hr)))
              clear hb hr H6 HE2
              go_wp2_with fail
              refine (HE3.out _ _ _ H7.out.1 H7.out.2.1).mono ?_
              rintro e w8 ⟨R3, r3, rfl, hr, hb⟩
              have H8 := Lib.hid (And.intro (H7.out.1.trans (hb.mono H7.out.1.size)) (And.intro (H7.out.2.1.below hb) (And.intro (H7.out.2.2.1.below hb) (And.intro (H7.out.2.2.2.below hb) hr))))
              clear hb hr H7 HE3
              have HB := Lib.hid H8.out.1
              clear H8
              go_wp2_with fail
              go_ret
              exact ⟨rfl, HB.out⟩
            · have hwx := hR.want0 k
              have hwy := hR.weight0 k
              have hU2 : U = fn xs k + more := by rw [← hU]; exact IntWalk.wrap64_in _ (by constructor <;> omega)
              have hV2 : V = fn ys k + more := by rw [← hV]; exact IntWalk.wrap64_in _ (by constructor <;> omega)
              have H2L := Lib.hid (more_bytes hR (k := k) (by omega) (show 0 ≤ more by omega) hU2)
              have H3L := Lib.hid (more_weight hR (k := k) (by omega) (show 0 ≤ more by omega) (by omega) hV2)
              rw [hL2, hE2, hn] at H2L
              rw [hL3, hE3, hn] at H3L
              rw [he] at HE1
              have HL1 : Hid ((ends xs ys).length = n ∧ m = n) := Lib.hid ⟨by rw [ends_length, hn], by rw [← hm, hR.len, hn]⟩
              simp only [ends_length] at HE1
              rw [hn] at HE1
              have HRT := Lib.hid hR
              have h16 : n ≤ 16 := by rw [← hn]; exact hR.few
              clear hx hy hpn hqn hxl hyl hn hm h0 he hL2 hE2 hL3 hE3 hwx hwy hU2 hV2 hR
              go_enter Try.func7, Try.ntmps7
              go_wp2_with fail
              refine (HA.out _).mono ?_
              rintro e w1 ⟨rfl, hb⟩
              have H1 := Lib.hid hb
              clear hb HA
              go_wp2_with fail
              refine (HC1.out _ H1.out).mono ?_
              rintro e w2 ⟨X, kx, rfl, hX, hb⟩
              have H2 := Lib.hid (And.intro (H1.out.trans (hb.mono H1.out.size)) (And.intro hX hb))
              clear hb HC1 hX
              go_wp2_with fail
              refine (HC2.out _ H2.out.1).mono ?_
              rintro e w3 ⟨Y, ky, rfl, hY, hb⟩
              have H3 := Lib.hid (And.intro (H2.out.1.trans (hb.mono H2.out.1.size)) (And.intro (H2.out.2.1.below hb) (And.intro hY (And.intro hb.size H2.out.2.2.size))))
              have HKX := Lib.hid H2.out.2.1.ab
              clear hb HC2 hY H2
              obtain ⟨gx, ox, rfl, bx, lx, c0, c1, hX2, hcX⟩ := H3.out.2.1.put (i := k) (by rw [HN.out.1]; exact c2) U
              have hXY : ∀ g, Ab Y g → ¬ g = gx := fun g hg e => by
                have h1 := (H3.out.2.2.1.ab g hg).1
                have h2 := (HKX.out gx ⟨_, rfl, rfl⟩).2
                omega
              have hY2 := H3.out.2.2.1.chg hcX (fun g hg e => hXY g hg e)
              obtain ⟨gy, oy, rfl, by_, ly, d0, d1, hY3, hcY⟩ := hY2.put (i := k) (by rw [HN.out.2]; exact c3) V
              have hX3 := hX2.chg hcY (fun g hg e => by
                obtain ⟨a, ea, rfl⟩ := hg
                injection ea with ea
                subst ea
                exact hXY gy ⟨_, rfl, rfl⟩ e.symm)
              have H5 : Hid (Below w.heap.size w ((w3.setCell ⟨gx, ox + k, none⟩ (.int .i64 U)).setCell ⟨gy, oy + k, none⟩ (.int .i64 V)) ∧ IntsIn ((w3.setCell ⟨gx, ox + k, none⟩ (.int .i64 U)).setCell ⟨gy, oy + k, none⟩ (.int .i64 V)) (some ⟨gx, ox, none⟩) (xs.set k U) ∧ IntsIn ((w3.setCell ⟨gx, ox + k, none⟩ (.int .i64 U)).setCell ⟨gy, oy + k, none⟩ (.int .i64 V)) (some ⟨gy, oy, none⟩) (ys.set k V)) := Lib.hid (by
                have s1 := H1.out.size
                refine ⟨?_, hX3.ints (by rw [List.length_set]; have := HS.out.1; omega), hY3.ints (by rw [List.length_set]; have := HS.out.2; omega)⟩
                exact (H3.out.1.setCell (p := ⟨gx, ox + k, none⟩) (by show w.heap.size ≤ gx; omega) _).setCell (p := ⟨gy, oy + k, none⟩) (by show w.heap.size ≤ gy; have := H3.out.2.2.2.2; omega) _)
              clear hX2 hcX hXY hY2 hY3 hX3 hcY H3 HKX H1 bx by_ lx ly HS
              go_upto_region 8 with fail
              clear c0 c1 d0 d1
              generalize (w3.setCell ⟨gx, ox + k, none⟩ (.int .i64 U)).setCell ⟨gy, oy + k, none⟩ (.int .i64 V) = w5 at *
              go_wp2_with fail
              refine (HE1.out _ H5.out.1).mono ?_
              rintro e w6 ⟨R1, r1, rfl, hr, hb⟩
              have H6 := Lib.hid (And.intro (H5.out.1.trans (hb.mono H5.out.1.size)) (And.intro (H5.out.2.1.below hb) (And.intro (H5.out.2.2.below hb) hr)))
              clear hb hr H5 HE1
              go_wp2_with fail
              refine (HE2.out _ _ _ H6.out.1 H6.out.2.1).mono ?_
              rintro e w7 ⟨R2, r2, rfl, hr, hb⟩
              have H7 := Lib.hid (And.intro (H6.out.1.trans (hb.mono H6.out.1.size)) (And.intro (H6.out.2.2.1.below hb) (And.intro (H6.out.2.2.2.below hb) hr)))
              clear hb hr H6 HE2
              go_wp2_with fail
              refine (HE3.out _ _ _ H7.out.1 H7.out.2.1).mono ?_
              rintro e w8 ⟨R3, r3, rfl, hr, hb⟩
              have H8 := Lib.hid (And.intro (H7.out.1.trans (hb.mono H7.out.1.size)) (And.intro (H7.out.2.1.below hb) (And.intro (H7.out.2.2.1.below hb) (And.intro (H7.out.2.2.2.below hb) hr))))
              clear hb hr H7 HE3
              have e1 : ((n : Int) != (n : Int)) = false := by simp
              by_cases e2 : E2 = 0
              · subst e2
                obtain ⟨hl2, hq2⟩ := H2L.out (by first | rfl | trivial)
                have H2Q := Lib.hid (And.intro hl2 hq2)
                rw [hl2]
                clear hl2 hq2 H2L
                go_wp2_with fail
                clear e1
                go_loopg [93] n (fun z c wr => ∃ (j t : Nat), c = .int .i64 (j : Int) ∧ j + z = n ∧ wr = w8.drewN t)
                case atStart => exact ⟨0, 0, rfl, by omega, rfl⟩
                case round =>
                  obtain ⟨j, t, rfl, hjk, rfl⟩ := hrel
                  cases gk with
                  | zero =>
                    obtain rfl : j = n := by omega
                    by_cases e3 : E3 = 0
                    · subst e3
                      obtain ⟨hl3, hq⟩ := H3L.out (by first | rfl | trivial)
                      have hkn : k < j := c2
                      have k1 : (k : Int) < (j : Int) := by omega
                      obtain ⟨b1, o1, a1, rfl, g1, z1, _⟩ := H8.out.2.2.1.next (i := k) (by rw [HL1.out.1]; exact hkn)
                      obtain ⟨b3, o3, a3, rfl, g3, z3, _⟩ := H8.out.2.2.2.2.next (i := k) (by rw [hl3]; exact hkn)
                      obtain ⟨bq, oq, v, rfl, gq, zq, _⟩ := (HPY.out _ H8.out.1).next (i := k) (by rw [HN.out.2]; exact c3)
                      obtain ⟨by_, oy_, v2, ey, gy2, zy, _⟩ := H8.out.2.1.next (i := k) (by rw [List.length_set, HN.out.2]; exact c3)
                      injection ey with ey
                      simp only [Addr.mk.injEq, and_true] at ey
                      obtain ⟨rfl, rfl⟩ := ey
                      obtain ⟨A, q1, hA⟩ : ∃ A, IntKind.i64.wrap (a3 * v) = A ∧ A = a3 * v := ⟨_, rfl, (hq a1 a3 v v2 g1 g3 gq gy2).1⟩
                      obtain ⟨B, q2, hB⟩ : ∃ B, IntKind.i64.wrap (a1 * v2) = B ∧ B = a1 * v2 := ⟨_, rfl, (hq a1 a3 v v2 g1 g3 gq gy2).2.1⟩
                      have hle := (hq a1 a3 v v2 g1 g3 gq gy2).2.2
                      rw [← hA, ← hB] at hle
                      have q3 : decide (A ≤ B) = true := decide_eq_true hle
                      have hll := HL1.out.1
                      have HB := Lib.hid H8.out.1
                      rw [hl3]
                      have e1 : ((j : Int) == (j : Int)) = true := by simp
                      clear hA hB hle hq hll g1 g3 gq gy2 HRT HPX HPY HN HL1 H2Q H3L H8
                      go_upto_region 20 with fail
                      go_quiet (fail)
                      go_wp2_with fail
                      go_ret
                      exact ⟨rfl, by first | exact below_drewN HB.out _ | exact below_drewN (below_drewN HB.out _) _⟩
                    · have he3 : (E3 != 0) = true := by simpa using e3
                      have HB := Lib.hid H8.out.1
                      clear e3 HRT HPX HPY HN HL1 H2Q H3L H8
                      go_upto_region 20 with fail
                      go_quiet (fail)
                      go_wp2_with fail
                      go_ret
                      exact ⟨rfl, by first | exact below_drewN HB.out _ | exact below_drewN (below_drewN HB.out _) _⟩
                  | succ z =>
                    have hj : j < n := by omega
                    have j1 : (j : Int) < (n : Int) := by omega
                    have j2 : ¬ n ≤ j := by omega
                    have j3 : decide (n ≤ j) = false := decide_eq_false j2
                    obtain ⟨hl2, hq⟩ := H2Q.out
                    obtain ⟨b1, o1, a1, rfl, g1, z1, _⟩ := H8.out.2.2.1.next (i := j) (by rw [HL1.out.1]; exact hj)
                    obtain ⟨b3, o3, a3, rfl, g3, z3, _⟩ := H8.out.2.2.2.1.next (i := j) (by rw [hl2]; exact hj)
                    have hle := hq j a1 a3 g1 g3
                    have q3 : decide (a3 < a1) = false := decide_eq_false (by omega)
                    have HJK := Lib.hid hjk
                    clear hl2 hle hq g1 g3 HRT HPX HPY HN HL1 H2Q H3L H8 hjk
                    go_upto_region 17 with fail
                    go_quiet (fail)
                    go_wp2_with fail
                    go_roundg z
                    case measure => omega
                    case rel => exact ⟨j + 1, t + nq, by go_num, by have := HJK.out; omega, by first | rfl | rw [World.drewN_drewN]⟩
              · have he2 : (E2 == 0) = false := by simpa using e2
                clear e2
                go_upto_region 20 with fail
                clear he2 e1
                by_cases e3 : E3 = 0
                · subst e3
                  obtain ⟨hl3, hq⟩ := H3L.out (by first | rfl | trivial)
                  have hkn : k < n := c2
                  have k1 : (k : Int) < (n : Int) := by omega
                  obtain ⟨b1, o1, a1, rfl, g1, z1, _⟩ := H8.out.2.2.1.next (i := k) (by rw [HL1.out.1]; exact hkn)
                  obtain ⟨b3, o3, a3, rfl, g3, z3, _⟩ := H8.out.2.2.2.2.next (i := k) (by rw [hl3]; exact hkn)
                  obtain ⟨bq, oq, v, rfl, gq, zq, _⟩ := (HPY.out _ H8.out.1).next (i := k) (by rw [HN.out.2]; exact c3)
                  obtain ⟨by_, oy_, v2, ey, gy2, zy, _⟩ := H8.out.2.1.next (i := k) (by rw [List.length_set, HN.out.2]; exact c3)
                  injection ey with ey
                  simp only [Addr.mk.injEq, and_true] at ey
                  obtain ⟨rfl, rfl⟩ := ey
                  obtain ⟨A, q1, hA⟩ : ∃ A, IntKind.i64.wrap (a3 * v) = A ∧ A = a3 * v := ⟨_, rfl, (hq a1 a3 v v2 g1 g3 gq gy2).1⟩
                  obtain ⟨B, q2, hB⟩ : ∃ B, IntKind.i64.wrap (a1 * v2) = B ∧ B = a1 * v2 := ⟨_, rfl, (hq a1 a3 v v2 g1 g3 gq gy2).2.1⟩
                  have hle := (hq a1 a3 v v2 g1 g3 gq gy2).2.2
                  rw [← hA, ← hB] at hle
                  have q3 : decide (A ≤ B) = true := decide_eq_true hle
                  have hll := HL1.out.1
                  have HB := Lib.hid H8.out.1
                  rw [hl3]
                  have e1 : ((n : Int) == (n : Int)) = true := by simp
                  clear hA hB hle hq hll g1 g3 gq gy2 HRT HPX HPY HN HL1 H2L H3L H8
                  go_upto_region 20 with fail
                  go_quiet (fail)
                  go_wp2_with fail
                  go_ret
                  exact ⟨rfl, by first | exact below_drewN HB.out _ | exact below_drewN (below_drewN HB.out _) _⟩
                · have he3 : (E3 != 0) = true := by simpa using e3
                  have HB := Lib.hid H8.out.1
                  clear e3 HRT HPX HPY HN HL1 H2L H3L H8
                  go_upto_region 20 with fail
                  go_quiet (fail)
                  go_wp2_with fail
                  go_ret
                  exact ⟨rfl, by first | exact below_drewN HB.out _ | exact below_drewN (below_drewN HB.out _) _⟩
end Go.Proofs.Ytemoleopabddnaa
