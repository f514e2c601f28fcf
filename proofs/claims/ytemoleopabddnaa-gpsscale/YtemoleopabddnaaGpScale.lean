/- GpsScale: only how the weights stand to each other counts; so many times as many bytes take so many times as long. -/
import Derived.Test.YtemoleopabddnaaGpSet
namespace Go.Proofs.Ytemoleopabddnaa
open Go.RowKit Go.Maps

/-- All of it so many times. -/
def times (d : Int) (x : Int) : Int := wrap64 (x * d)
theorem times_small {d x : Int} (h1 : 1 ≤ d ∧ d ≤ 20) (hx : 0 ≤ x ∧ x ≤ 1048576) : times d x = d * x := by
  have h3 : x * d ≤ 1048576 * 20 := Int.mul_le_mul hx.2 h1.2 (by omega) (by decide)
  have h4 := Int.mul_nonneg hx.1 (show 0 ≤ d by omega)
  unfold times
  rw [IntWalk.wrap64_in _ (by constructor <;> omega), Int.mul_comm]
theorem scale_weights {xs ys : List Int} (hR : Right xs ys) {d : Int} (hd : 1 ≤ d ∧ d ≤ 20) (h : (endOf xs (ys.map (times d))).2 = 0) :
    (endOf xs (ys.map (times d))).1.length = xs.length ∧ ∀ (k : Nat) (a x : Int), (ends xs ys)[k]? = some a → (endOf xs (ys.map (times d))).1[k]? = some x → x = d * a := by
  rcases end_way xs (ys.map (times d)) with ⟨h12, e⟩ | ⟨_, hR2, e⟩
  · rw [e] at h
    have h : wrongL xs (ys.map (times d)) = 0 := h
    omega
  · rw [e]
    refine ⟨ends_length _ _, fun k a x ha hx => ?_⟩
    have hk := lt_of_some ha
    rw [ends_length] at hk
    rw [ends_get ha, ends_get hx, ← gT_scaleW _ _ _ _ (show 0 ≤ d by omega)]
    refine gT_congr hk (fun _ _ => rfl) fun j hj => ?_
    rw [fn_map (by rw [hR.len]; exact hj), times_small hd (by have := hR.weight0 j; omega)]
theorem scale_bytes {xs ys : List Int} (hR : Right xs ys) {d : Int} (hd : 1 ≤ d ∧ d ≤ 20) (h : (endOf (xs.map (times d)) ys).2 = 0) :
    (endOf (xs.map (times d)) ys).1.length = xs.length ∧ ∀ (k : Nat) (a x : Int), (ends xs ys)[k]? = some a → (endOf (xs.map (times d)) ys).1[k]? = some x → x = d * a := by
  rcases end_way (xs.map (times d)) ys with ⟨h12, e⟩ | ⟨_, hR2, e⟩
  · rw [e] at h
    have h : wrongL (xs.map (times d)) ys = 0 := h
    omega
  · rw [e]
    refine ⟨by rw [ends_length, List.length_map], fun k a x ha hx => ?_⟩
    have hk := lt_of_some ha
    rw [ends_length] at hk
    rw [ends_get ha, ends_get hx, List.length_map, ← gT_scaleB _ _ _ _ (show 0 ≤ d by omega)]
    refine gT_congr hk (fun j hj => ?_) fun _ _ => rfl
    rw [fn_map hj, times_small hd (hR.want0 j)]
theorem scale_prod {xs ys : List Int} (hR : Right xs ys) {d : Int} (hd : 1 ≤ d ∧ d ≤ 20) {k : Nat} {a : Int} (ha : (ends xs ys)[k]? = some a) : IntKind.i64.wrap (d * a) = d * a := by
  have h := gT_small hR k
  rw [← ends_get ha] at h
  have h1 := Int.mul_nonneg (show 0 ≤ d by omega) h.1
  have h2 : d * a ≤ 20 * 16777216000 := Int.mul_le_mul hd.2 h.2 h.1 (by decide)
  exact wrap_in (by omega) (by omega)

set_option maxRecDepth 100000 in
set_option maxHeartbeats 16000000 in
theorem gpsScale_law {w : World} {P Q : Option Addr} {xs ys : List Int} {n m : Nat} (hx : IntsIn w P xs) (hn : xs.length = n) (hy : IntsIn w Q ys) (hm : ys.length = m) (hpn : P = none → xs = []) (hqn : Q = none → ys = []) (hxl : xs.length * 8 ≤ 140737488355328) (hyl : ys.length * 8 ≤ 140737488355328) (cx cy : Nat) (d : Int) :
    Calls Try.prog 8 #[.slice P n cx, .slice Q m cy, .int .i64 d] w fun e w' => e = .returned (.bool true) ∧ Below w.heap.size w w' := by
  have HA := Lib.hid alive13_any
  by_cases c1 : d < 1
  · clear hx hn hy hm hpn hqn hxl hyl
    go_enter Try.func8, Try.ntmps8
    go_wp2_with fail
    refine (HA.out _).mono ?_
    rintro e w1 ⟨rfl, hb⟩
    have H1 := Lib.hid hb
    clear hb HA
    go_wp2_with fail
    go_ret
    exact ⟨rfl, H1.out⟩
  · by_cases c2 : 20 < d
    · clear hx hn hy hm hpn hqn hxl hyl
      go_enter Try.func8, Try.ntmps8
      go_wp2_with fail
      refine (HA.out _).mono ?_
      rintro e w1 ⟨rfl, hb⟩
      have H1 := Lib.hid hb
      clear hb HA
      go_wp2_with fail
      go_ret
      exact ⟨rfl, H1.out⟩
    · have hd : 1 ≤ d ∧ d ≤ 20 := by omega
      have HD := Lib.hid hd
      have HC1 := Lib.hid (fun W (hW : Below w.heap.size w W) => clone_any (hx.below hW) cx hpn hxl)
      have HC2 := Lib.hid (fun W (hW : Below w.heap.size w W) => clone_any (hy.below hW) cy hqn hyl)
      have HE1 := Lib.hid (fun W (hW : Below w.heap.size w W) => end_any (hx.below hW) (hy.below hW) cx cy)
      have HE2 := Lib.hid (fun W R c (hW : Below w.heap.size w W) (h : IntsIn W R (ys.map (times d))) => end_any (hx.below hW) h cx c)
      have HE3 := Lib.hid (fun W R c (hW : Below w.heap.size w W) (h : IntsIn W R (xs.map (times d))) => end_any h (hy.below hW) c cy)
      have HN := Lib.hid (And.intro hn hm)
      have h47 : n ≤ 17592186044416 ∧ m ≤ 17592186044416 := by omega
      unfold ClonedI at HC1 HC2
      unfold Got at HE1 HE2 HE3
      simp only [List.length_map] at HE2 HE3
      rw [hn] at HC1 HE1 HE2 HE3
      rw [hm] at HC2 HE1 HE2 HE3
      obtain ⟨L1, hL1⟩ : ∃ L, (endOf xs ys).1 = L := ⟨_, rfl⟩
      obtain ⟨E1, hE1⟩ : ∃ E, (endOf xs ys).2 = E := ⟨_, rfl⟩
      obtain ⟨L2, hL2⟩ : ∃ L, (endOf xs (ys.map (times d))).1 = L := ⟨_, rfl⟩
      obtain ⟨E2, hE2⟩ : ∃ E, (endOf xs (ys.map (times d))).2 = E := ⟨_, rfl⟩
      obtain ⟨L3, hL3⟩ : ∃ L, (endOf (xs.map (times d)) ys).1 = L := ⟨_, rfl⟩
      obtain ⟨E3, hE3⟩ : ∃ E, (endOf (xs.map (times d)) ys).2 = E := ⟨_, rfl⟩
      rw [hL1, hE1] at HE1
      rw [hL2, hE2] at HE2
      rw [hL3, hE3] at HE3
      have HW : Hid ((¬ E1 = 0 ∧ L1.length = 0) ∨ (E1 = 0 ∧ n ≤ 16 ∧ L1.length = n ∧ (∀ (k : Nat) (a : Int), L1[k]? = some a → IntKind.i64.wrap (d * a) = d * a) ∧ (E2 = 0 → L2.length = n ∧ ∀ (k : Nat) (a x : Int), L1[k]? = some a → L2[k]? = some x → x = d * a) ∧ (E3 = 0 → L3.length = n ∧ ∀ (k : Nat) (a x : Int), L1[k]? = some a → L3[k]? = some x → x = d * a))) := Lib.hid (by
        rcases end_way xs ys with ⟨h12, he⟩ | ⟨h0, hR, he⟩
        · rw [he] at hL1 hE1
          have hE1 : wrongL xs ys = E1 := hE1
          have hL1 : [] = L1 := hL1
          exact .inl ⟨by omega, by rw [← hL1]; rfl⟩
        · rw [he] at hL1 hE1
          have hE1 : 0 = E1 := hE1
          have hL1 : ends xs ys = L1 := hL1
          have k2 := scale_weights hR hd
          have k3 := scale_bytes hR hd
          rw [hL2, hE2, hL1, hn] at k2
          rw [hL3, hE3, hL1, hn] at k3
          exact .inr ⟨hE1.symm, by rw [← hn]; exact hR.few, by rw [← hL1, ends_length, hn], fun k a ha => scale_prod hR hd (by rw [hL1]; exact ha), k2, k3⟩)
      clear hx hy hpn hqn hxl hyl hn hm hL1 hE1 hL2 hE2 hL3 hE3 hd
      go_enter Try.func8, Try.ntmps8
      go_wp2_with fail
      refine (HA.out _).mono ?_
      rintro e w1 ⟨rfl, hb⟩
      have H1 := Lib.hid hb
      clear hb HA
      go_wp2_with fail
      refine (HC1.out _ H1.out).mono ?_
      rintro e w2 ⟨X, kx, rfl, hX, hb⟩
      have H2 := Lib.hid (And.intro (H1.out.trans (hb.mono H1.out.size)) (And.intro hX hb))
      clear hb HC1 hX
      go_wp2_with fail
      refine (HC2.out _ H2.out.1).mono ?_
      rintro e w3 ⟨Y, ky, rfl, hY, hb⟩
      have H3 : Hid (Below w.heap.size w w3 ∧ Fifo w1.heap.size w3 X xs kx ∧ Fifo w2.heap.size w3 Y ys ky) := Lib.hid ⟨H2.out.1.trans (hb.mono H2.out.1.size), H2.out.2.1.below hb, hY⟩
      have HAP : Hid (w.heap.size ≤ w1.heap.size ∧ w.heap.size ≤ w2.heap.size ∧ ∀ g, Ab X g → ¬ Ab Y g) := Lib.hid ⟨H1.out.size, H2.out.1.size, fun g h1 h2 => by
        have k1 := (H2.out.2.1.ab g h1).2
        have k2 := (hY.ab g h2).1
        omega⟩
      clear hb HC2 hY H2 H1
      go_wp2_with fail
      go_loopg [32] n (fun z c wr => ∃ i : Nat, c = .int .i64 (i : Int) ∧ i + z = n ∧ Hid (Below w.heap.size w wr ∧ Fifo w1.heap.size wr X (upd (times d) xs i) kx ∧ Fifo w2.heap.size wr Y ys ky))
      case atStart => exact ⟨0, rfl, by omega, Lib.hid ⟨H3.out.1, by rw [upd_zero]; exact H3.out.2.1, H3.out.2.2⟩⟩
      case round =>
        clear H3
        obtain ⟨i, rfl, hik, HI⟩ := hrel
        cases gk with
        | succ z =>
          have hi : i < n := by omega
          have i1 : (i : Int) < (n : Int) := by omega
          obtain ⟨g, o, rfl, bg, lg, c0, f0, hX, hc⟩ := HI.out.2.1.put (i := i) (by rw [upd_length, HN.out.1]; exact hi) (times d (fn xs i))
          rw [upd_at (by rw [HN.out.1]; exact hi)] at c0
          rw [upd_set (by rw [HN.out.1]; exact hi)] at hX
          have HJ : Hid (Below w.heap.size w (wr.setCell ⟨g, o + i, none⟩ (.int .i64 (times d (fn xs i)))) ∧ Fifo w1.heap.size (wr.setCell ⟨g, o + i, none⟩ (.int .i64 (times d (fn xs i)))) (some ⟨g, o, none⟩) (upd (times d) xs (i + 1)) kx ∧ Fifo w2.heap.size (wr.setCell ⟨g, o + i, none⟩ (.int .i64 (times d (fn xs i)))) Y ys ky) := Lib.hid ⟨HI.out.1.setCell (p := ⟨g, o + i, none⟩) (by show w.heap.size ≤ g; have := HAP.out.1; omega) _, hX, HI.out.2.2.chg hc (fun k hk e => by
            subst e
            exact HAP.out.2.2 k ⟨_, rfl, rfl⟩ hk)⟩
          obtain ⟨T, hT⟩ : ∃ T, times d (fn xs i) = T := ⟨_, rfl⟩
          have q1 : wrap64 (fn xs i * d) = T := hT
          rw [hT] at HJ
          have HIK := Lib.hid hik
          clear bg lg hX hc HI HAP hik hT HN HW
          go_wp2_with fail
          go_roundg z
          case measure => omega
          case rel => exact ⟨i + 1, by go_num, by have := HIK.out; omega, by first | exact HJ | (rw [q1]; exact HJ)⟩
        | zero =>
          obtain rfl : i = n := by omega
          have HF : Hid (Below w.heap.size w wr ∧ Fifo w1.heap.size wr X (xs.map (times d)) kx ∧ Fifo w2.heap.size wr Y ys ky) := Lib.hid (by
            have := HI.out
            rwa [upd_all _ _ HN.out.1.symm] at this)
          clear HI
          go_wp2_with fail
          go_loopg [45] m (fun z c wi => ∃ j : Nat, c = .int .i64 (j : Int) ∧ j + z = m ∧ Hid (Below w.heap.size w wi ∧ Fifo w1.heap.size wi X (xs.map (times d)) kx ∧ Fifo w2.heap.size wi Y (upd (times d) ys j) ky))
          case atStart => exact ⟨0, rfl, by omega, Lib.hid ⟨HF.out.1, HF.out.2.1, by rw [upd_zero]; exact HF.out.2.2⟩⟩
          case round =>
            clear HF
            obtain ⟨j, rfl, hjk, HI⟩ := hrel
            cases gk with
            | succ z =>
              have hj : j < m := by omega
              have j1 : (j : Int) < (m : Int) := by omega
              obtain ⟨g, o, rfl, bg, lg, c0, f0, hY, hc⟩ := HI.out.2.2.put (i := j) (by rw [upd_length, HN.out.2]; exact hj) (times d (fn ys j))
              rw [upd_at (by rw [HN.out.2]; exact hj)] at c0
              rw [upd_set (by rw [HN.out.2]; exact hj)] at hY
              have HJ : Hid (Below w.heap.size w (wr.setCell ⟨g, o + j, none⟩ (.int .i64 (times d (fn ys j)))) ∧ Fifo w1.heap.size (wr.setCell ⟨g, o + j, none⟩ (.int .i64 (times d (fn ys j)))) X (xs.map (times d)) kx ∧ Fifo w2.heap.size (wr.setCell ⟨g, o + j, none⟩ (.int .i64 (times d (fn ys j)))) (some ⟨g, o, none⟩) (upd (times d) ys (j + 1)) ky) := Lib.hid ⟨HI.out.1.setCell (p := ⟨g, o + j, none⟩) (by show w.heap.size ≤ g; have := HAP.out.2.1; omega) _, HI.out.2.1.chg hc (fun k hk e => by
                subst e
                exact HAP.out.2.2 k hk ⟨_, rfl, rfl⟩), hY⟩
              obtain ⟨T, hT⟩ : ∃ T, times d (fn ys j) = T := ⟨_, rfl⟩
              have q1 : wrap64 (fn ys j * d) = T := hT
              rw [hT] at HJ
              have HJK := Lib.hid hjk
              clear bg lg hY hc HI HAP hjk hT HN HW
              go_wp2_with fail
              go_roundg z
              case measure => omega
              case rel => exact ⟨j + 1, by go_num, by have := HJK.out; omega, by first | exact HJ | (rw [q1]; exact HJ)⟩
            | zero =>
              obtain rfl : j = m := by omega
              have H5 : Hid (Below w.heap.size w wr ∧ IntsIn wr X (xs.map (times d)) ∧ IntsIn wr Y (ys.map (times d))) := Lib.hid (by
                have h := HI.out
                rw [upd_all _ _ HN.out.2.symm] at h
                exact ⟨h.1, h.2.1.ints (by rw [List.length_map, HN.out.1]; omega), h.2.2.ints (by rw [List.length_map, HN.out.2]; omega)⟩)
              clear HI HAP HN
              go_wp2_with fail
              refine (HE1.out _ H5.out.1).mono ?_
              rintro e w6 ⟨R1, r1, rfl, hr, hb⟩
              have H6 := Lib.hid (And.intro (H5.out.1.trans (hb.mono H5.out.1.size)) (And.intro (H5.out.2.1.below hb) (And.intro (H5.out.2.2.below hb) hr)))
              clear hb hr H5 HE1
              go_wp2_with fail
              refine (HE2.out _ _ _ H6.out.1 H6.out.2.2.1).mono ?_
              rintro e w7 ⟨R2, r2, rfl, hr, hb⟩
              have H7 := Lib.hid (And.intro (H6.out.1.trans (hb.mono H6.out.1.size)) (And.intro (H6.out.2.1.below hb) (And.intro (H6.out.2.2.2.below hb) hr)))
              clear hb hr H6 HE2
              go_wp2_with fail
              refine (HE3.out _ _ _ H7.out.1 H7.out.2.1).mono ?_
              rintro e w8 ⟨R3, r3, rfl, hr, hb⟩
              have H8 := Lib.hid (And.intro (H7.out.1.trans (hb.mono H7.out.1.size)) (And.intro (H7.out.2.2.1.below hb) (And.intro (H7.out.2.2.2.below hb) hr)))
              clear hb hr H7 HE3
              rcases HW.out with ⟨k1, k2⟩ | ⟨k1, h16, k2, k3, k4, k5⟩
              · have HB := Lib.hid H8.out.1
                have k3 : (E1 != 0) = true := by simpa using k1
                rw [k2]
                clear H8 k1 k2 HW
                go_wp2_with fail
                go_ret
                exact ⟨rfl, HB.out⟩
              · subst k1
                have HK := Lib.hid (And.intro k2 (And.intro k3 (And.intro k4 k5)))
                rw [k2]
                clear k2 k3 k4 k5 HW
                go_wp2_with fail
                go_loopg [81] i (fun z c wi => ∃ (k t : Nat), c = .int .i64 (k : Int) ∧ k + z = i ∧ wi = w8.drewN t)
                case atStart => exact ⟨0, 0, rfl, by omega, rfl⟩
                case round =>
                  obtain ⟨k, t, rfl, hkk, rfl⟩ := hrel
                  cases gk with
                  | zero =>
                    clear HK
                    obtain rfl : k = i := by omega
                    go_wp2_with fail
                    go_ret
                    exact ⟨rfl, below_drewN H8.out.1 t⟩
                  | succ z =>
                    have hk : k < i := by omega
                    have j1 : (k : Int) < (i : Int) := by omega
                    have j2 : ¬ i ≤ k := by omega
                    have j3 : decide (i ≤ k) = false := decide_eq_false j2
                    obtain ⟨b1, o1, a, rfl, g1, z1, _⟩ := H8.out.2.1.next (i := k) (by rw [HK.out.1]; exact hk)
                    obtain ⟨A, q1, hA⟩ : ∃ A, IntKind.i64.wrap (d * a) = A ∧ A = d * a := ⟨_, rfl, HK.out.2.1 k a g1⟩
                    have HKK := Lib.hid hkk
                    have HX : Hid (E2 = 0 → L2.length = i ∧ ∃ b o, R2 = some ⟨b, o, none⟩ ∧ w8.cell? ⟨b, o + k, none⟩ = some (.int .i64 A)) := Lib.hid (fun h => by
                      obtain ⟨l, q⟩ := HK.out.2.2.1 h
                      obtain ⟨b, o, x, e, gx, zx, _⟩ := H8.out.2.2.1.next (i := k) (by rw [l]; exact hk)
                      rw [q k a x g1 gx, ← hA] at zx
                      exact ⟨l, b, o, e, zx⟩)
                    have HY : Hid (E3 = 0 → L3.length = i ∧ ∃ b o, R3 = some ⟨b, o, none⟩ ∧ w8.cell? ⟨b, o + k, none⟩ = some (.int .i64 A)) := Lib.hid (fun h => by
                      obtain ⟨l, q⟩ := HK.out.2.2.2 h
                      obtain ⟨b, o, x, e, gx, zx, _⟩ := H8.out.2.2.2.next (i := k) (by rw [l]; exact hk)
                      rw [q k a x g1 gx, ← hA] at zx
                      exact ⟨l, b, o, e, zx⟩)
                    have q4 : (A != A) = false := by simp
                    clear hA g1 hkk HK
                    by_cases e2 : E2 = 0
                    · by_cases e3 : E3 = 0
                      · have e2b : (E2 == 0) = true := by simpa using e2
                        obtain ⟨l2, bx, ox, ex, zx⟩ := HX.out e2
                        have e3b : (E3 == 0) = true := by simpa using e3
                        obtain ⟨l3, by_, oy, ey, zy⟩ := HY.out e3
                        clear HX HY e2 e3
                        go_upto_region 24 with fail
                        go_quiet (fail)
                        go_wp2_with fail
                        go_roundg z
                        case measure => omega
                        case rel => exact ⟨k + 1, t + nq, by go_num, by have := HKK.out; omega, by first | rfl | rw [World.drewN_drewN]⟩
                      · have e2b : (E2 == 0) = true := by simpa using e2
                        obtain ⟨l2, bx, ox, ex, zx⟩ := HX.out e2
                        have e3b : (E3 == 0) = false := by simpa using e3
                        clear HX HY e2 e3
                        go_upto_region 24 with fail
                        go_quiet (fail)
                        go_wp2_with fail
                        go_roundg z
                        case measure => omega
                        case rel => exact ⟨k + 1, t + nq, by go_num, by have := HKK.out; omega, by first | rfl | rw [World.drewN_drewN]⟩
                    · by_cases e3 : E3 = 0
                      · have e2b : (E2 == 0) = false := by simpa using e2
                        have e3b : (E3 == 0) = true := by simpa using e3
                        obtain ⟨l3, by_, oy, ey, zy⟩ := HY.out e3
                        clear HX HY e2 e3
                        go_upto_region 24 with fail
                        go_quiet (fail)
                        go_wp2_with fail
                        go_roundg z
                        case measure => omega
                        case rel => exact ⟨k + 1, t + nq, by go_num, by have := HKK.out; omega, by first | rfl | rw [World.drewN_drewN]⟩
                      · have e2b : (E2 == 0) = false := by simpa using e2
                        have e3b : (E3 == 0) = false := by simpa using e3
                        clear HX HY e2 e3
                        go_upto_region 24 with fail
                        go_quiet (fail)
                        go_wp2_with fail
                        go_roundg z
                        case measure => omega
                        case rel => exact ⟨k + 1, t + nq, by go_num, by have := HKK.out; omega, by first | rfl | rw [World.drewN_drewN]⟩
end Go.Proofs.Ytemoleopabddnaa
