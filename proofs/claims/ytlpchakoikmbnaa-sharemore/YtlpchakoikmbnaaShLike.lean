/- ShareLike: who is alike gets alike; in another order it is the same. -/
import Derived.Test.YtlpchakoikmbnaaShRev
import Derived.Test.YtlpchakoikmbnaaIn3
namespace Go.Proofs.Ytlpchakoikmbnaa
open Go.RowKit Go.Maps

theorem Level.congr {A : Int} {w v w' v' : Nat → Int} {n : Nat} {N D : Int} (h : Level A w v n N D) (hw : ∀ k, k < n → w' k = w k) (hv : ∀ k, k < n → v' k = v k) : Level A w' v' n N D := by
  have hs : ∀ k, k < n → isS w' v' N D k = isS w v N D k := fun k hk => by unfold isS; rw [hw k hk, hv k hk]
  refine ⟨?_⟩
  rcases h.way with ⟨h1, h2, h3⟩ | h1
  · exact .inl ⟨by rw [su_congr hw]; exact h1, h2, h3⟩
  · refine .inr ⟨h1.pos, ?_, ?_⟩
    · refine Eq.trans ?_ h1.den
      exact su_congr fun k hk => by rw [hs k hk, hv k hk]
    · refine Eq.trans ?_ h1.num
      exact congrArg (A - ·) (su_congr fun k hk => by rw [hs k hk, hw k hk])
theorem fn_rev {xs : List Int} {k : Nat} (hk : k < xs.length) : fn xs.reverse k = fn xs (xs.length - 1 - k) := by
  apply fn_at
  rw [List.getElem?_reverse hk]
  exact at_fn (by omega)
theorem wrongL_rev (A : Int) (xs ys : List Int) : wrongL A xs.reverse ys.reverse = wrongL A xs ys := by
  unfold wrongL
  rw [List.length_reverse, List.length_reverse, List.any_reverse, List.any_reverse]
theorem gets_rev {A : Int} {xs ys : List Int} (hR : Right A xs ys) {N D : Int} (n : Nat) (hn : xs.length = n) : gets (fn xs.reverse) (fn ys.reverse) N D n = (gets (fn xs) (fn ys) N D n).reverse := by
  apply List.ext_getElem?
  intro k
  rcases Nat.lt_or_ge k n with hk | hk
  · rw [gets_at hk, List.getElem?_reverse (by rw [gets_length]; exact hk), gets_length, gets_at (by omega)]
    have e1 := fn_rev (xs := xs) (k := k) (by omega)
    have e2 := fn_rev (xs := ys) (k := k) (by rw [hR.len]; omega)
    rw [hR.len, hn] at e2
    rw [hn] at e1
    unfold gN gD isS
    rw [e1, e2]
  · rw [List.getElem?_eq_none (by rw [gets_length]; exact hk), List.getElem?_eq_none (by rw [List.length_reverse, gets_length]; exact hk)]
theorem gv_rev {A : Int} {xs ys : List Int} {gs : List (Int × Int)} {E N D : Int} (h : Gv A xs ys gs E N D) : Gv A xs.reverse ys.reverse gs.reverse E N D := by
  refine ⟨by rw [wrongL_rev]; exact h.err, ?_⟩
  rcases h.way with ⟨h1, rfl, h3, h4⟩ | ⟨h1, hR, hL, rfl⟩
  · exact .inl ⟨h1, rfl, h3, h4⟩
  · refine .inr ⟨h1, ⟨by rw [List.length_reverse, List.length_reverse]; exact hR.len, by rw [List.length_reverse]; exact hR.few, hR.all, fun x hx => hR.wants x (List.mem_reverse.1 hx), fun y hy => hR.weights y (List.mem_reverse.1 hy)⟩, ?_, ?_⟩
    · rw [List.length_reverse]
      exact (level_rev hL).congr (fun k hk => fn_rev hk) (fun k hk => by have := fn_rev (xs := ys) (k := k) (by rw [hR.len]; exact hk); rwa [hR.len] at this)
    · rw [List.length_reverse, gets_rev hR _ rfl]

theorem rev_fifo {B : Nat} {w : World} {A : Option Addr} {xs : List Int} {cap : Nat} (h : Fifo B w A xs cap) (hl : xs.length * 8 ≤ 140737488355328) :
    Calls Try.prog 17 #[.slice A xs.length cap] w fun e w' => e = .returned (.tuple #[]) ∧ IntsIn w' A xs.reverse ∧ Chg (Ab A) w w' := by
  by_cases h0 : 0 < xs.length
  · obtain ⟨g, off, rfl, ho, _⟩ := h.own h0
    refine (reverse_ints ho rfl (by omega) cap).mono ?_
    rintro e w' ⟨he, h1, h2⟩
    exact ⟨he, h1.ints (by rw [List.length_reverse]; omega), h2.mono fun k _ e => ⟨_, rfl, e.symm⟩⟩
  · obtain rfl : xs = [] := List.eq_nil_of_length_eq_zero (by omega)
    refine (reverse_ints_none A cap w).mono ?_
    rintro e w' ⟨he, rfl⟩
    exact ⟨he, ⟨fun h => absurd h (by decide), by decide⟩, Chg.refl _ _⟩
theorem rev_frs {w : World} {R : Option Addr} {gs : List (Int × Int)} (h : FrsIn w R gs) (hf : ∀ k, Ab R k → ∀ j, w.frozen? ⟨k, j, none⟩ = false) (hl : gs.length ≤ 16) (cap : Nat) :
    Calls Try.prog 18 #[.slice R gs.length cap] w fun e w' => e = .returned (.tuple #[]) ∧ FrsIn w' R gs.reverse ∧ Chg (Ab R) w w' := by
  by_cases h0 : 0 < gs.length
  · obtain ⟨g, off, rfl, ho⟩ := h.own h0 hf
    refine (reverse_frs ho rfl (by omega) cap).mono ?_
    rintro e w' ⟨he, h1, h2⟩
    exact ⟨he, h1.frs, h2.mono fun k _ e => ⟨_, rfl, e.symm⟩⟩
  · obtain rfl : gs = [] := List.eq_nil_of_length_eq_zero (by omega)
    refine (reverse_frs_none R cap w).mono ?_
    rintro e w' ⟨he, rfl⟩
    exact ⟨he, FrsIn.nil _ _, Chg.refl _ _⟩

/-- What two of the same want and weight get. -/
theorem gets_alike {xs ys : List Int} {N D : Int} {i j : Nat} {x y : Int} (h1 : fn xs i = x) (h2 : fn xs j = x) (h3 : fn ys i = y) (h4 : fn ys j = y) : (gN (fn xs) (fn ys) N D i, gD (fn xs) (fn ys) N D i) = (gN (fn xs) (fn ys) N D j, gD (fn xs) (fn ys) N D j) := by
  unfold gN gD isS
  rw [h1, h2, h3, h4]

theorem IntsIn.two {w : World} {A : Option Addr} {xs : List Int} (h : IntsIn w A xs) {i j : Nat} (hi : i < xs.length) (hj : j < xs.length) : ∃ b off, A = some ⟨b, off, none⟩ ∧ w.cell? ⟨b, off + i, none⟩ = some (.int .i64 (fn xs i)) ∧ w.cell? ⟨b, off + j, none⟩ = some (.int .i64 (fn xs j)) := by
  obtain ⟨b, off, e, _, hc⟩ := h.at_ (by omega)
  exact ⟨b, off, e, hc i _ (at_fn hi), hc j _ (at_fn hj)⟩
theorem FrsIn.two {w : World} {A : Option Addr} {gs : List (Int × Int)} (h : FrsIn w A gs) {i j : Nat} {p q : Int × Int} (hi : gs[i]? = some p) (hj : gs[j]? = some q) : ∃ b off, A = some ⟨b, off, none⟩ ∧ (w.cell? ⟨b, off + i * 2, none⟩ = some (.int .i64 p.1) ∧ w.cell? ⟨b, off + i * 2 + 1, none⟩ = some (.int .i64 p.2)) ∧ w.cell? ⟨b, off + j * 2, none⟩ = some (.int .i64 q.1) ∧ w.cell? ⟨b, off + j * 2 + 1, none⟩ = some (.int .i64 q.2) := by
  obtain ⟨b, off, e, _, hc⟩ := h.at_ (by have := (List.getElem?_eq_some_iff.1 hi).1; omega)
  exact ⟨b, off, e, hc i p hi, hc j q hj⟩
set_option maxRecDepth 100000 in
set_option maxHeartbeats 16000000 in
theorem shareLike_law {w : World} {P Q : Option Addr} {xs ys : List Int} {n m : Nat} (hx : IntsIn w P xs) (hn : xs.length = n) (hy : IntsIn w Q ys) (hm : ys.length = m) (hpn : P = none → xs = []) (hqn : Q = none → ys = []) (hxl : xs.length * 8 ≤ 140737488355328) (hyl : ys.length * 8 ≤ 140737488355328) (cx cy : Nat) (A : Int) :
    Calls Try.prog 7 #[.int .i64 A, .slice P n cx, .slice Q m cy] w fun e w' => e = .returned (.bool true) ∧ Below w.heap.size w w' := by
  obtain ⟨gs, E, N, D, hG⟩ := gv_any A xs ys
  have HA := Lib.hid alive12_any
  have HG := Lib.hid (fun W (hW : Below w.heap.size w W) => hG.gets (hx.below hW) (hy.below hW) cx cy)
  have HC1 := Lib.hid (fun W (hW : Below w.heap.size w W) => clone_any (hx.below hW) cx hpn hxl)
  have HC2 := Lib.hid (fun W (hW : Below w.heap.size w W) => clone_any (hy.below hW) cy hqn hyl)
  have HR1 := Lib.hid (fun W B R c (h : Fifo B W R xs c) => rev_fifo h hxl)
  have HR2 := Lib.hid (fun W B R c (h : Fifo B W R ys c) => rev_fifo h hyl)
  have HB := Lib.hid (fun W P' Q' c c' (h1 : IntsIn W P' xs.reverse) (h2 : IntsIn W Q' ys.reverse) => (gv_rev hG).gets h1 h2 c c')
  unfold Got at HG HB
  unfold ClonedI at HC1 HC2
  rw [hn] at HG HC1 HR1
  rw [hm] at HG HC2 HR2
  rw [List.length_reverse, List.length_reverse, List.length_reverse, hn, hm] at HB
  have HPX := Lib.hid (fun W (hW : Below w.heap.size w W) => hx.below hW)
  have HPY := Lib.hid (fun W (hW : Below w.heap.size w W) => hy.below hW)
  have HGV := Lib.hid hG
  have HN := Lib.hid (And.intro hn hm)
  have HRV := Lib.hid (fun W R c (h : FrsIn W R gs.reverse) (hf : ∀ k, Ab R k → ∀ j, W.frozen? ⟨k, j, none⟩ = false) => rev_frs h hf (by rw [List.length_reverse]; exact hG.few) c)
  rw [List.length_reverse, List.reverse_reverse] at HRV
  have HEQ := Lib.hid (fun W R1 R2 c1 c2 (h1 : FrsIn W R1 gs) (h2 : FrsIn W R2 gs) => equal_frs h1 h2 c1 c2 (by have := hG.few; omega))
  rw [decide_eq_true (rfl : gs = gs)] at HEQ
  obtain ⟨q, hq⟩ : ∃ q, gs.length = q := ⟨_, rfl⟩
  have HQ := Lib.hid hq
  rw [hq] at HG HB HRV HEQ
  clear hG hx hy hpn hqn hxl hyl hn hm hq
  go_enter Try.func7, Try.ntmps7
  go_wp2_with fail
  refine (HA.out _).mono ?_
  rintro e w1 ⟨rfl, hb⟩
  have H1 := Lib.hid hb
  clear hb HA
  go_wp2_with fail
  refine (HG.out _ H1.out).mono ?_
  rintro e w2 ⟨R, c, rfl, hR, hb, _, _⟩
  have H2 := Lib.hid (And.intro (H1.out.trans (hb.mono H1.out.size)) hR)
  clear hb HG H1 hR
  go_wp2_with fail
  refine (HC1.out _ H2.out.1).mono ?_
  rintro e w3 ⟨X, kx, rfl, hX, hb⟩
  have H3 := Lib.hid (And.intro (H2.out.1.trans (hb.mono H2.out.1.size)) (And.intro hb hX))
  clear hb HC1 hX
  go_wp2_with fail
  refine (HC2.out _ H3.out.1).mono ?_
  rintro e w4 ⟨Y, ky, rfl, hY, hb⟩
  have H4 := Lib.hid (And.intro (H3.out.2.1.trans (hb.mono H3.out.2.1.size)) (And.intro (H3.out.2.2.below hb) hY))
  clear hb HC2 hY
  go_wp2_with fail
  refine (HR1.out _ _ _ _ H4.out.2.1).mono ?_
  rintro e w5 ⟨rfl, hX, hc⟩
  have H5 : Hid (Below w2.heap.size w2 w5 ∧ IntsIn w5 X xs.reverse ∧ Fifo w3.heap.size w5 Y ys ky) := Lib.hid (by
    have hb := hc.below (B := w2.heap.size) H4.out.1.size (fun k hk => (H4.out.2.1.ab k hk).1)
    refine ⟨H4.out.1.trans hb, hX, H4.out.2.2.chg hc (fun k hk hkx => ?_)⟩
    have h1 := (H3.out.2.2.ab k hkx).2
    have h2 := (H4.out.2.2.ab k hk).1
    omega)
  clear hc hX HR1
  go_wp2_with fail
  refine (HR2.out _ _ _ _ H5.out.2.2).mono ?_
  rintro e w6 ⟨rfl, hY, hc⟩
  have H6 : Hid (Below w2.heap.size w2 w6 ∧ IntsIn w6 X xs.reverse ∧ IntsIn w6 Y ys.reverse) := Lib.hid (by
    have h23 := H3.out.2.1.size
    have hb := hc.below (B := w2.heap.size) H5.out.1.size (fun k hk => by have := (H5.out.2.2.ab k hk).1; omega)
    refine ⟨H5.out.1.trans hb, H5.out.2.1.chg hc (fun _ k hk hky => ?_), hY⟩
    have h1 := (H3.out.2.2.ab k hk).2
    have h2 := (H5.out.2.2.ab k hky).1
    omega)
  clear hc hY HR2 H3 H4 H5
  go_wp2_with fail
  refine (HB.out _ _ _ _ _ H6.out.2.1 H6.out.2.2).mono ?_
  rintro e w7 ⟨R2, c2, rfl, hR2, hb, hfz, _⟩
  have H7 : Hid (Below w2.heap.size w2 w7 ∧ FrsIn w7 R2 gs.reverse ∧ ∀ k, Ab R2 k → w2.heap.size ≤ k ∧ ∀ j, w7.frozen? ⟨k, j, none⟩ = false) := Lib.hid ⟨H6.out.1.trans (hb.mono H6.out.1.size), hR2, fun k hk => ⟨Nat.le_trans H6.out.1.size (hfz k hk).1, (hfz k hk).2⟩⟩
  clear hb hR2 hfz HB H6
  have hway := HGV.out.way
  rcases hway with ⟨h12, _, _, _⟩ | ⟨hE, hR, hL, hgs⟩
  · have HZ : Hid (Below w.heap.size w w7) := Lib.hid (H2.out.1.trans (H7.out.1.mono H2.out.1.size))
    clear H2 H7 HRV HEQ HPX HPY HGV HN HQ
    rcases h12 with rfl | rfl
    all_goals
      go_wp2_with fail
      go_ret
      exact ⟨rfl, HZ.out⟩
  · subst hE
    obtain rfl : q = n := by rw [← HQ.out, hgs, gets_length, HN.out.1]
    obtain rfl : m = q := by rw [← HN.out.2, hR.len, HN.out.1]
    have h16 : m ≤ 16 := by rw [← HN.out.2, hR.len]; exact hR.few
    have HGS := Lib.hid hgs
    have HRT := Lib.hid hR
    clear hgs hR hL HGV
    go_wp2_with fail
    refine (HRV.out _ _ _ H7.out.2.1 (fun k hk => (H7.out.2.2 k hk).2)).mono ?_
    rintro e w8 ⟨rfl, hR2, hc⟩
    have H8 : Hid (Below w.heap.size w w8 ∧ FrsIn w8 R gs ∧ FrsIn w8 R2 gs) := Lib.hid (by
      have hb := H7.out.1.trans (hc.below (B := w2.heap.size) H7.out.1.size (fun k hk => (H7.out.2.2 k hk).1))
      exact ⟨H2.out.1.trans (hb.mono H2.out.1.size), H2.out.2.below hb, hR2⟩)
    clear hR2 hc HRV H7 H2
    go_wp2_with fail
    go_loopg [52, 57] m (fun z c u wr => ∃ i : Nat, c = .int .i64 (i : Int) ∧ i + z = m ∧ Hid (Below w8.heap.size w8 wr))
    case atStart => exact ⟨0, rfl, by omega, Lib.hid (Below.refl _ _)⟩
    case round =>
      obtain ⟨i, rfl, hik, HI⟩ := hrel
      cases gk with
      | zero =>
        obtain rfl : i = m := by omega
        have HE := Lib.hid (HEQ.out _ _ _ c c2 (H8.out.2.1.below HI.out) (H8.out.2.2.below HI.out))
        have HZ := Lib.hid (H8.out.1.trans (HI.out.mono H8.out.1.size))
        clear HEQ H8 HI HPX HPY HGS HRT HN HQ
        go_wp2_with fail
        refine HE.out.mono ?_
        rintro e w9 ⟨rfl, hb⟩
        have HY := Lib.hid (HZ.out.trans (hb.mono HZ.out.size))
        clear hb HE HZ
        go_wp2_with fail
        go_ret
        exact ⟨rfl, HY.out⟩
      | succ k =>
        have hi : i < m := by omega
        have i1 : (i : Int) < (m : Int) := by omega
        have HIK := Lib.hid hik
        clear hik
        go_wp2_with fail
        go_loopg [57] m (fun z2 c2 wr2 => ∃ j : Nat, c2 = .int .i64 (j : Int) ∧ j + z2 = m ∧ Hid (Below w8.heap.size w8 wr2))
        case atStart => exact ⟨0, rfl, by omega, HI⟩
        case round =>
          clear HI
          obtain ⟨j, rfl, hjk, HI⟩ := hrel
          cases gk with
          | zero =>
            obtain rfl : j = m := by omega
            go_wp2_with fail
            go_roundg k
            case measure => omega
            case rel => exact ⟨i + 1, by go_num, by have := HIK.out; omega, HI⟩
          | succ k2 =>
            have hj : j < m := by omega
            have j1 : (j : Int) < (m : Int) := by omega
            have hW := H8.out.1.trans (HI.out.mono H8.out.1.size)
            obtain ⟨gx, ox, rfl, a1, a2⟩ := (HPX.out _ hW).two (i := i) (j := j) (by rw [HN.out.1]; exact hi) (by rw [HN.out.1]; exact hj)
            obtain ⟨gy, oy, rfl, b1, b2⟩ := (HPY.out _ hW).two (i := i) (j := j) (by rw [HN.out.2]; exact hi) (by rw [HN.out.2]; exact hj)
            have hgi := gets_at (w := fn xs) (v := fn ys) (N := N) (D := D) (n := xs.length) (k := i) (by rw [HN.out.1]; exact hi)
            have hgj := gets_at (w := fn xs) (v := fn ys) (N := N) (D := D) (n := xs.length) (k := j) (by rw [HN.out.1]; exact hj)
            rw [← HGS.out] at hgi hgj
            obtain ⟨gr, og, rfl, ⟨c3, c4⟩, c5, c6⟩ := (H8.out.2.1.below HI.out).two hgi hgj
            have hal := fun x y => gets_alike (xs := xs) (ys := ys) (N := N) (D := D) (i := i) (j := j) (x := x) (y := y)
            generalize fn xs i = x1 at *
            generalize fn xs j = x2 at *
            generalize fn ys i = y1 at *
            generalize fn ys j = y2 at *
            generalize gN (fn xs) (fn ys) N D i = n1 at *
            generalize gN (fn xs) (fn ys) N D j = n2 at *
            generalize gD (fn xs) (fn ys) N D i = d1 at *
            generalize gD (fn xs) (fn ys) N D j = d2 at *
            clear hW hgi hgj
            by_cases ex : x1 = x2
            · by_cases ey : y1 = y2
              · have hne := fun w => fr_neq w n1 d1 n2 d2
                rw [fr_same (hal x1 y1 rfl ex.symm rfl ey.symm)] at hne
                have e1 : (x1 == x2) = true := by simpa using ex
                have e2 : (y1 == y2) = true := by simpa using ey
                clear ex ey hal
                go_wp2_with fail
                go_quiet (fail)
                go_wp2_with fail
                go_roundg k2
                case measure => omega
                case rel => exact ⟨j + 1, by go_num, by omega, Lib.hid (below_drewN HI.out _)⟩
              · have e1 : (x1 == x2) = true := by simpa using ex
                have e2 : (y1 == y2) = false := by simpa using ey
                clear ex ey hal c3 c4 c5 c6
                go_wp2_with fail
                go_quiet (fail)
                go_wp2_with fail
                go_roundg k2
                case measure => omega
                case rel => exact ⟨j + 1, by go_num, by omega, Lib.hid (below_drewN HI.out _)⟩
            · have e1 : (x1 == x2) = false := by simpa using ex
              clear ex hal c3 c4 c5 c6 b1 b2
              go_wp2_with fail
              go_quiet (fail)
              go_wp2_with fail
              go_roundg k2
              case measure => omega
              case rel => exact ⟨j + 1, by go_num, by omega, Lib.hid (below_drewN HI.out _)⟩
end Go.Proofs.Ytlpchakoikmbnaa
