/- ShareMore: more for all is no less for anybody; who wants less leaves no less to the others. -/
import Derived.Test.YtlpchakoikmbnaaShLike
namespace Go.Proofs.Ytlpchakoikmbnaa
open Go.RowKit Go.Maps

/-- A share's numbers are small. -/
def OkF (p : Int × Int) : Prop := (0 ≤ p.1 ∧ p.1 ≤ 1048576000) ∧ 1 ≤ p.2 ∧ p.2 ≤ 16000
theorem gets_okf {A : Int} {xs ys : List Int} (hR : Right A xs ys) {N D : Int} (hL : Level A (fn xs) (fn ys) xs.length N D) : ∀ (j : Nat) p, (gets (fn xs) (fn ys) N D xs.length)[j]? = some p → OkF p := fun j p hp => by
  obtain ⟨hj, rfl⟩ := gets_back hp
  exact g_bounds hR hL hj
theorem okf_mul {p q : Int × Int} (hp : OkF p) (hq : OkF q) : 0 ≤ p.1 * q.2 ∧ p.1 * q.2 ≤ 16777216000000 := by
  have h1 := Int.mul_nonneg hp.1.1 (show 0 ≤ q.2 by have := hq.2; omega)
  have h2 : p.1 * q.2 ≤ 1048576000 * 16000 := Int.mul_le_mul hp.1.2 hq.2.2 (by have := hq.2; omega) (by decide)
  omega

set_option maxRecDepth 100000 in
set_option maxHeartbeats 8000000 in
/-- Nobody has less, but for one of whom nothing is asked. -/
theorem noLess_any {w : World} {box n cR cL : Nat} {R L : Option Addr} {gs ls : List (Int × Int)} {but : Int} (hc : w.cell? ⟨box, 0, none⟩ = some (.slice R n cR)) (h1 : FrsIn w R gs) (h2 : FrsIn w L ls) (hg : gs.length = n) (hl : ls.length = n) (hn : n ≤ 16)
    (o1 : ∀ (j : Nat) p, gs[j]? = some p → OkF p) (o2 : ∀ (j : Nat) p, ls[j]? = some p → OkF p) (hno : ∀ (k : Nat) p q, gs[k]? = some p → ls[k]? = some q → (k : Int) ≠ but → p.1 * q.2 ≤ q.1 * p.2) :
    Calls Try.prog 16 #[.slice L n cL, .int .i64 but, .pointer (some ⟨box, 0, none⟩)] w fun e w' => e = .returned (.bool true) ∧ ∃ t, w' = w.drewN t := by
  have H1 := Lib.hid h1
  have H2 := Lib.hid h2
  have HN := Lib.hid (And.intro hg hl)
  have HO := Lib.hid (And.intro o1 o2)
  have HNO := Lib.hid hno
  clear h1 h2 hg hl o1 o2 hno
  go_enter Try.func16, Try.ntmps16
  go_wp2_with fail
  go_loopg [14] n (fun z c wr => ∃ i t : Nat, c = .int .i64 (i : Int) ∧ i + z = n ∧ wr = w.drewN t)
  case atStart => exact ⟨0, 0, rfl, by omega, rfl⟩
  case round =>
    obtain ⟨i, t, rfl, hik, rfl⟩ := hrel
    cases gk with
    | zero =>
      obtain rfl : i = n := by omega
      go_wp2_with fail
      go_ret
      exact ⟨rfl, t, rfl⟩
    | succ k =>
      have hi : i < n := by omega
      have i1 : (i : Int) < (n : Int) := by omega
      obtain ⟨b1, o1, a, b, rfl, hp, ⟨c0, c1⟩, _⟩ := H1.out.next (i := i) (by rw [HN.out.1]; exact hi)
      obtain ⟨b2, o2, c, d, rfl, hq, ⟨c2, c3⟩, _⟩ := H2.out.next (i := i) (by rw [HN.out.2]; exact hi)
      by_cases he : (i : Int) = but
      · have e1 : ((i : Int) != but) = false := by simpa using he
        clear hp hq he c0 c1 c2 c3
        go_wp2_with fail
        go_quiet (fail)
        go_wp2_with fail
        go_roundg k
        case measure => omega
        case rel => exact ⟨i + 1, t + nq, by go_num, by omega, rfl⟩
      · have e1 : ((i : Int) != but) = true := by simpa using he
        have hle := HNO.out i _ _ hp hq he
        have m1 := okf_mul (HO.out.1 i _ hp) (HO.out.2 i _ hq)
        have m2 := okf_mul (HO.out.2 i _ hq) (HO.out.1 i _ hp)
        dsimp only at hle m1 m2
        obtain ⟨S, q1, hS⟩ : ∃ S, IntKind.i64.wrap (c * b) = S ∧ S = c * b := ⟨_, rfl, wrap_in (by omega) (by omega)⟩
        obtain ⟨T, q2, hT⟩ : ∃ T, IntKind.i64.wrap (a * d) = T ∧ T = a * d := ⟨_, rfl, wrap_in (by omega) (by omega)⟩
        have e2 : decide (S < T) = false := decide_eq_false (by omega)
        clear hp hq he hle m1 m2 hS hT
        go_wp2_with fail
        go_quiet (fail)
        go_wp2_with fail
        go_roundg k
        case measure => omega
        case rel => exact ⟨i + 1, t + nq, by go_num, by omega, rfl⟩

theorem more_le {A A' : Int} {xs xs' ys : List Int} {N D N' D' : Int} (hR : Right A xs ys) (hL : Level A (fn xs) (fn ys) xs.length N D) (hL' : Level A' (fn xs') (fn ys) xs.length N' D') (hA : A ≤ A') (hw : ∀ k, k < xs.length → fn xs' k ≤ fn xs k) {but : Int} (he : ∀ k : Nat, k < xs.length → (k : Int) ≠ but → fn xs' k = fn xs k) :
    ∀ (k : Nat) p q, (gets (fn xs) (fn ys) N D xs.length)[k]? = some p → (gets (fn xs') (fn ys) N' D' xs.length)[k]? = some q → (k : Int) ≠ but → p.1 * q.2 ≤ q.1 * p.2 := fun k p q hp hq hk => by
  obtain ⟨hkn, rfl⟩ := gets_back hp
  obtain ⟨_, rfl⟩ := gets_back hq
  exact g_more hL hL' hA hw (fun k hk => (hR.weight hk).1) hkn (he k hkn hk)
theorem fn_set {xs : List Int} {i : Nat} (hi : i < xs.length) (z : Int) (k : Nat) : fn (xs.set i z) k = if k = i then z else fn xs k := by
  unfold fn
  rw [List.getD_eq_getElem?_getD, List.getD_eq_getElem?_getD, List.getElem?_set]
  by_cases e : i = k
  · subst e
    rw [if_pos rfl, if_pos hi, if_pos rfl]
    rfl
  · rw [if_neg e, if_neg (by omega)]

def boxR (w : World) (R : Option Addr) (n c : Nat) : World := w.alloc (.cells #[.slice R n c] 28)
theorem boxR_at (w : World) (R : Option Addr) (n c : Nat) : (boxR w R n c).heap[w.heap.size]? = some (.cells #[.slice R n c] 28 (0, 0)) ∧ Below w.heap.size w (boxR w R n c) ∧ (boxR w R n c).heap.size = w.heap.size + 1 := ⟨heap_alloc_new w _, (Below.refl _ _).alloc (Nat.le_refl _) _, by simp [boxR]⟩

set_option maxRecDepth 100000 in
set_option maxHeartbeats 16000000 in
theorem shareMore_out {w : World} {P Q : Option Addr} {n m cx cy : Nat} (A more who less : Int) (h : more < 0 ∨ less < 0 ∨ 1000 < more ∨ 1000 < less ∨ who < 0 ∨ (n : Int) ≤ who) :
    Calls Try.prog 6 #[.int .i64 A, .slice P n cx, .slice Q m cy, .int .i64 more, .int .i64 who, .int .i64 less] w fun e w' => e = .returned (.bool true) ∧ Below w.heap.size w w' := by
  have HA := Lib.hid alive12_any
  have hc : more < 0 ∨ (¬ more < 0 ∧ less < 0) ∨ (¬ more < 0 ∧ ¬ less < 0 ∧ 1000 < more) ∨ (¬ more < 0 ∧ ¬ less < 0 ∧ ¬ 1000 < more ∧ 1000 < less) ∨ (¬ more < 0 ∧ ¬ less < 0 ∧ ¬ 1000 < more ∧ ¬ 1000 < less ∧ who < 0) ∨ (¬ more < 0 ∧ ¬ less < 0 ∧ ¬ 1000 < more ∧ ¬ 1000 < less ∧ ¬ who < 0 ∧ (n : Int) ≤ who) := by omega
  clear h
  rcases hc with k1 | ⟨k1, k2⟩ | ⟨k1, k2, k3⟩ | ⟨k1, k2, k3, k4⟩ | ⟨k1, k2, k3, k4, k5⟩ | ⟨k1, k2, k3, k4, k5, k6⟩
  all_goals
    go_enter Try.func6, Try.ntmps6
    go_wp2_with fail
    refine (HA.out _).mono ?_
    rintro e w1 ⟨rfl, hb⟩
    have H1 := Lib.hid hb
    clear hb HA
    go_wp2_with fail
    go_ret
    exact ⟨rfl, H1.out⟩
set_option maxRecDepth 100000 in
set_option maxHeartbeats 32000000 in
theorem shareMore_in {w : World} {P Q : Option Addr} {xs ys : List Int} {n m k cx cy : Nat} (hx : IntsIn w P xs) (hn : xs.length = n) (hy : IntsIn w Q ys) (hm : ys.length = m) (hpn : P = none → xs = []) (hxl : xs.length * 8 ≤ 140737488355328) (A : Int) {more less : Int} (hmo : 0 ≤ more ∧ more ≤ 1000) (hle : 0 ≤ less ∧ less ≤ 1000) (hk : k < n) :
    Calls Try.prog 6 #[.int .i64 A, .slice P n cx, .slice Q m cy, .int .i64 more, .int .i64 (k : Int), .int .i64 less] w fun e w' => e = .returned (.bool true) ∧ Below w.heap.size w w' := by
  have HA := Lib.hid alive12_any
  obtain ⟨x, hxk⟩ : ∃ x, xs[k]? = some x := ⟨fn xs k, at_fn (by omega)⟩
  obtain ⟨z, hz⟩ : ∃ z, wrap64 (x - less) = z := ⟨_, rfl⟩
  obtain ⟨A2, hA2⟩ : ∃ A2, wrap64 (A + more) = A2 := ⟨_, rfl⟩
  have hfl : (xs.set k z).length = n := by rw [List.length_set, hn]
  obtain ⟨gs, E, N, D, hG⟩ := gv_any A xs ys
  obtain ⟨gs2, E2, N2, D2, hG2⟩ := gv_any A2 xs ys
  obtain ⟨gs3, E3, N3, D3, hG3⟩ := gv_any A (xs.set k z) ys
  have HG1 := Lib.hid (fun W (hW : Below w.heap.size w W) => hG.gets (hx.below hW) (hy.below hW) cx cy)
  have HG2 := Lib.hid (fun W (hW : Below w.heap.size w W) => hG2.gets (hx.below hW) (hy.below hW) cx cy)
  have HG3 := Lib.hid (fun W (hW : Below w.heap.size w W) P' c' (h : IntsIn W P' (xs.set k z)) => hG3.gets h (hy.below hW) c' cy)
  have HC := Lib.hid (fun W (hW : Below w.heap.size w W) => clone_any (hx.below hW) cx hpn hxl)
  unfold Got at HG1 HG2 HG3
  unfold ClonedI at HC
  rw [hn] at HG1 HG2 HC
  rw [hm] at HG1 HG2 HG3
  rw [hfl] at HG3
  have HWAY : Hid ((E != 0) = true ∨ (E = 0 ∧ gs.length = n ∧ n ≤ 16 ∧ (∀ (j : Nat) p, gs[j]? = some p → OkF p) ∧ (E2 = 0 → gs2.length = n ∧ (∀ (j : Nat) p, gs2[j]? = some p → OkF p) ∧ ∀ (k : Nat) p q, gs[k]? = some p → gs2[k]? = some q → (k : Int) ≠ -1 → p.1 * q.2 ≤ q.1 * p.2) ∧
      (E3 = 0 → gs3.length = n ∧ (∀ (j : Nat) p, gs3[j]? = some p → OkF p) ∧ ∀ (j : Nat) p q, gs[j]? = some p → gs3[j]? = some q → (j : Int) ≠ (k : Int) → p.1 * q.2 ≤ q.1 * p.2))) := Lib.hid (by
    rcases hG.way with ⟨h12, _⟩ | ⟨rfl, hR, hL, rfl⟩
    · exact .inl (by rcases h12 with rfl | rfl <;> rfl)
    · refine .inr ⟨rfl, by rw [gets_length, hn], by rw [← hn]; exact hR.few, gets_okf hR hL, fun h2 => ?_, fun h3 => ?_⟩
      · rcases hG2.way with ⟨h12, _⟩ | ⟨_, hR2, hL2, rfl⟩
        · omega
        · have hA := hR.all
          have hAe : A2 = A + more := by rw [← hA2]; exact IntWalk.wrap64_in _ (by constructor <;> omega)
          exact ⟨by rw [gets_length, hn], gets_okf hR2 hL2, more_le hR hL hL2 (by omega) (fun _ _ => Int.le_refl _) (fun _ _ _ => rfl)⟩
      · rcases hG3.way with ⟨h12, _⟩ | ⟨_, hR3, hL3, rfl⟩
        · omega
        · have hxw := hR.want (k := k) (by omega)
          rw [fn_at hxk] at hxw
          have hze : z = x - less := by rw [← hz]; exact IntWalk.wrap64_in _ (by constructor <;> omega)
          have hl3 : (xs.set k z).length = xs.length := List.length_set
          have ho3 := gets_okf hR3 hL3
          rw [hl3] at hL3 ho3 ⊢
          refine ⟨by rw [gets_length, hn], ho3, more_le hR hL hL3 (Int.le_refl _) (fun j hj => ?_) (fun j hj hne => ?_)⟩
          · rw [fn_set (by omega)]
            split
            · next e => subst e; rw [fn_at hxk]; omega
            · exact Int.le_refl _
          · rw [fn_set (by omega), if_neg (by omega)])
  have HX := Lib.hid (And.intro hxk hn)
  have HXL := Lib.hid hxl
  obtain ⟨q, hq⟩ : ∃ q, gs.length = q := ⟨_, rfl⟩
  obtain ⟨q2, hq2⟩ : ∃ q2, gs2.length = q2 := ⟨_, rfl⟩
  obtain ⟨q3, hq3⟩ : ∃ q3, gs3.length = q3 := ⟨_, rfl⟩
  rw [hq] at HG1 HWAY
  rw [hq2] at HG2 HWAY
  rw [hq3] at HG3 HWAY
  have HQL := Lib.hid (And.intro hq (And.intro hq2 hq3))
  have k1 : ¬ more < 0 := by omega
  have k2 : ¬ less < 0 := by omega
  have k3 : ¬ 1000 < more := by omega
  have k4 : ¬ 1000 < less := by omega
  have k5 : ¬ (k : Int) < 0 := by omega
  have k6 : (k : Int) < (n : Int) := by omega
  clear hG hG2 hG3 hx hy hpn hxl hn hm hxk hfl hmo hle hq hq2 hq3
  go_enter Try.func6, Try.ntmps6
  go_wp2_with fail
  refine (HA.out _).mono ?_
  rintro e w1 ⟨rfl, hb⟩
  have H1 := Lib.hid hb
  clear hb HA
  go_wp2_with fail
  refine (HC.out _ H1.out).mono ?_
  rintro e w2 ⟨X, kx, rfl, hX, hb⟩
  obtain ⟨g, off, rfl, ho, hB⟩ := hX.own (by have := HX.out.2; omega)
  obtain ⟨c0, f0⟩ := ho.1 k x HX.out.1
  have H3 : Hid (Below w.heap.size w (w2.setCell ⟨g, off + k, none⟩ (.int .i64 z)) ∧ IntsIn (w2.setCell ⟨g, off + k, none⟩ (.int .i64 z)) (some ⟨g, off, none⟩) (xs.set k z)) := Lib.hid (by
    obtain ⟨p1, p2⟩ := ho.put HX.out.1 z
    have hs := H1.out.size
    exact ⟨((H1.out.trans (hb.mono hs)).setCell (p := ⟨g, off + k, none⟩) (by show w.heap.size ≤ g; omega) _), p1.ints (by rw [List.length_set]; have := HXL.out; omega)⟩)
  clear hb HC H1 hX ho hB
  go_wp2_with fail
  refine (HG1.out _ H3.out.1).mono ?_
  rintro e w4 ⟨R, c, rfl, hR, hb, _, _⟩
  have hF := boxR_at w4 R q c
  have hs := H3.out.1.size
  have H5 : Hid (Below w.heap.size w (boxR w4 R q c) ∧ IntsIn (boxR w4 R q c) (some ⟨g, off, none⟩) (xs.set k z) ∧ FrsIn (boxR w4 R q c) R gs ∧ (boxR w4 R q c).heap[w4.heap.size]? = some (.cells #[.slice R q c] 28 (0, 0)) ∧ w4.heap.size < (boxR w4 R q c).heap.size) := Lib.hid (by
    have hb2 := H3.out.1.trans (hb.mono hs)
    exact ⟨hb2.trans (hF.2.1.mono hb2.size), (H3.out.2.below hb).below hF.2.1, hR.below hF.2.1, hF.1, by omega⟩)
  clear hR hb hF hs H3 HG1 c0 f0
  go_upto_region 8 with fail
  change Code.wp _ _ _ _ (boxR w4 R q c)
  generalize boxR w4 R q c = w5 at *
  generalize w4.heap.size = box at *
  go_wp2_with fail
  refine (HG2.out _ H5.out.1).mono ?_
  rintro e w6 ⟨R2, c2, rfl, hR2, hb, _, _⟩
  have H6 : Hid (Below w.heap.size w w6 ∧ IntsIn w6 (some ⟨g, off, none⟩) (xs.set k z) ∧ FrsIn w6 R gs ∧ (w6.heap[box]? = some (.cells #[.slice R q c] 28 (0, 0)) ∧ box < w6.heap.size) ∧ FrsIn w6 R2 gs2) := Lib.hid ⟨H5.out.1.trans (hb.mono H5.out.1.size), H5.out.2.1.below hb, H5.out.2.2.1.below hb, ⟨(hb.block _ H5.out.2.2.2.2).trans H5.out.2.2.2.1, Nat.lt_of_lt_of_le H5.out.2.2.2.2 hb.size⟩, hR2⟩
  clear hR2 hb H5 HG2
  go_wp2_with fail
  refine (HG3.out _ H6.out.1 _ kx H6.out.2.1).mono ?_
  rintro e w7 ⟨R3, c3, rfl, hR3, hb, _, _⟩
  have H7 : Hid (Below w.heap.size w w7 ∧ FrsIn w7 R gs ∧ w7.heap[box]? = some (.cells #[.slice R q c] 28 (0, 0)) ∧ FrsIn w7 R2 gs2 ∧ FrsIn w7 R3 gs3) := Lib.hid ⟨H6.out.1.trans (hb.mono H6.out.1.size), H6.out.2.2.1.below hb, (hb.block _ H6.out.2.2.2.1.2).trans H6.out.2.2.2.1.1, H6.out.2.2.2.2.below hb, hR3⟩
  clear hR3 hb H6 HG3
  have cbox := cell_of_row _ _ 0 _ _ _ H7.out.2.2.1
  rcases HWAY.out with hE | ⟨rfl, hqn, h16, o1, hw2, hw3⟩
  · have HZ := Lib.hid H7.out.1
    clear H7 HWAY HX HXL HQL
    go_wp2_with fail
    go_ret
    exact ⟨rfl, HZ.out⟩
  · have hcw : ∀ W, Below w7.heap.size w7 W → W.cell? ⟨box, 0, none⟩ = some (.slice R q c) := fun W hW => (hW.cell (p := ⟨_, _, none⟩) (Array.getElem?_eq_some_iff.1 H7.out.2.2.1).1).trans cbox
    have hz2 : (E2 != 0) = true ∨ (E2 = 0 ∧ ∀ W, Below w7.heap.size w7 W → Calls Try.prog 16 #[.slice R2 q2 c2, .int .i64 (-1), .pointer (some ⟨box, 0, none⟩)] W fun e w' => e = .returned (.bool true) ∧ ∃ t, w' = W.drewN t) := by
      by_cases h0 : E2 = 0
      · obtain ⟨a1, a2, a3⟩ := hw2 h0
        refine .inr ⟨h0, fun W hW => ?_⟩
        rw [a1]
        have hc := hcw W hW
        rw [hqn] at hc
        exact noLess_any hc (H7.out.2.1.below hW) (H7.out.2.2.2.1.below hW) (by rw [HQL.out.1]; exact hqn) (by rw [HQL.out.2.1]; exact a1) h16 o1 a2 a3
      · exact .inl (by simpa using h0)
    have hz3 : (E3 != 0) = true ∨ (E3 = 0 ∧ ∀ W, Below w7.heap.size w7 W → Calls Try.prog 16 #[.slice R3 q3 c3, .int .i64 (k : Int), .pointer (some ⟨box, 0, none⟩)] W fun e w' => e = .returned (.bool true) ∧ ∃ t, w' = W.drewN t) := by
      by_cases h0 : E3 = 0
      · obtain ⟨a1, a2, a3⟩ := hw3 h0
        refine .inr ⟨h0, fun W hW => ?_⟩
        rw [a1]
        have hc := hcw W hW
        rw [hqn] at hc
        exact noLess_any hc (H7.out.2.1.below hW) (H7.out.2.2.2.2.below hW) (by rw [HQL.out.1]; exact hqn) (by rw [HQL.out.2.2]; exact a1) h16 o1 a2 a3
      · exact .inl (by simpa using h0)
    have HZ := Lib.hid H7.out.1
    have hqe : ((q : Int) != (n : Int)) = false := by simp; omega
    have HZ2 := Lib.hid hz2
    have HZ3 := Lib.hid hz3
    clear hcw hz2 hz3 hw2 hw3 o1 H7 HWAY HX HXL HQL hqn
    rcases HZ2.out with e2 | ⟨rfl, hc2⟩
    · rcases HZ3.out with e3 | ⟨rfl, hc3⟩
      · clear HZ2 HZ3
        go_wp2_with fail
        go_ret
        exact ⟨rfl, HZ.out⟩
      · have HC3 := Lib.hid (hc3 w7 (Below.refl _ _))
        clear HZ2 HZ3 hc3
        go_wp2_with fail
        refine HC3.out.mono ?_
        rintro e w8 ⟨rfl, t, rfl⟩
        clear HC3
        go_wp2_with fail
        go_ret
        exact ⟨rfl, below_drewN HZ.out _⟩
    · rcases HZ3.out with e3 | ⟨rfl, hc3⟩
      · have HC2 := Lib.hid (hc2 w7 (Below.refl _ _))
        clear HZ2 HZ3 hc2
        go_wp2_with fail
        refine HC2.out.mono ?_
        rintro e w8 ⟨rfl, t, rfl⟩
        clear HC2
        go_wp2_with fail
        go_ret
        exact ⟨rfl, below_drewN HZ.out _⟩
      · have HC2 := Lib.hid (hc2 w7 (Below.refl _ _))
        have HC3 := Lib.hid (fun t => hc3 (w7.drewN t) (below_drewN (Below.refl _ _) t))
        clear HZ2 HZ3 hc2 hc3
        go_wp2_with fail
        refine HC2.out.mono ?_
        rintro e w8 ⟨rfl, t, rfl⟩
        clear HC2
        go_wp2_with fail
        refine (HC3.out t).mono ?_
        rintro e w9 ⟨rfl, t2, rfl⟩
        clear HC3
        go_wp2_with fail
        go_ret
        exact ⟨rfl, below_drewN HZ.out _⟩
theorem shareMore_law {w : World} {P Q : Option Addr} {xs ys : List Int} {n m cx cy : Nat} (hx : IntsIn w P xs) (hn : xs.length = n) (hy : IntsIn w Q ys) (hm : ys.length = m) (hpn : P = none → xs = []) (hxl : xs.length * 8 ≤ 140737488355328) (A more who less : Int) :
    Calls Try.prog 6 #[.int .i64 A, .slice P n cx, .slice Q m cy, .int .i64 more, .int .i64 who, .int .i64 less] w fun e w' => e = .returned (.bool true) ∧ Below w.heap.size w w' := by
  by_cases h : more < 0 ∨ less < 0 ∨ 1000 < more ∨ 1000 < less ∨ who < 0 ∨ (n : Int) ≤ who
  · exact shareMore_out A more who less h
  · obtain ⟨k, rfl⟩ : ∃ k : Nat, who = (k : Int) := ⟨who.toNat, by omega⟩
    exact shareMore_in hx hn hy hm hpn hxl A (by omega) (by omega) (by omega)
end Go.Proofs.Ytlpchakoikmbnaa
