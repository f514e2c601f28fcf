/- Package share: Level. -/
import Derived.Test.YtlpchakoikmbnaaSh5
import Derived.Test.YtlpchakoikmbnaaShOrd
namespace Go.Proofs.Ytlpchakoikmbnaa
open Go.RowKit Go.Maps

/-- The result's block and the level's, behind w. -/
structure LvI (w wr : World) (N D : Int) : Prop where
  below : Below w.heap.size w wr
  res : FrAt wr w.heap.size 0 0
  lev : FrAt wr (w.heap.size + 1) N D
namespace LvI
variable {w wr W : World} {N D : Int}
theorem later (h : LvI w wr N D) (hb : Below wr.heap.size wr W) : LvI w W N D := ⟨h.below.trans (hb.mono h.below.size), h.res.below hb, h.lev.below hb⟩
theorem num (h : LvI w wr N D) (x : Int) : LvI w (wr.setCell ⟨w.heap.size + 1, 0, none⟩ (.int .i64 x)) x D := ⟨h.below.setCell (by show w.heap.size ≤ w.heap.size + 1; omega) _, h.res.other (by show w.heap.size ≠ w.heap.size + 1; omega) _, h.lev.num x⟩
theorem den (h : LvI w wr N D) (x : Int) : LvI w (wr.setCell ⟨w.heap.size + 1, 1, none⟩ (.int .i64 x)) N x := ⟨h.below.setCell (by show w.heap.size ≤ w.heap.size + 1; omega) _, h.res.other (by show w.heap.size ≠ w.heap.size + 1; omega) _, h.lev.den x⟩
theorem ended (h : LvI w wr N D) (m e : Int) : FrAt (wr.setRow w.heap.size #[.int .i64 m, .int .i64 e]) w.heap.size m e ∧ Below w.heap.size w (wr.setRow w.heap.size #[.int .i64 m, .int .i64 e]) := ⟨h.res.stored m e, below_setRow h.below (Nat.le_refl _) _⟩
end LvI
/-- What a round goes over: the level, the order, a want and its weight. -/
structure Rnd (w W : World) (g : Nat) (Ls : List Int) (gx ix gy iy : Nat) (a c N D : Int) : Prop where
  lv : LvI w W N D
  ls : IntsIn W (some ⟨g, 0, none⟩) Ls
  nums : W.cell? ⟨gx, ix, none⟩ = some (.int .i64 a) ∧ W.cell? ⟨gy, iy, none⟩ = some (.int .i64 c)
  la : gx < W.heap.size
  lc : gy < W.heap.size
  na : gx ≠ w.heap.size + 1
  nc : gy ≠ w.heap.size + 1
  ng : g ≠ w.heap.size + 1
namespace Rnd
variable {w W V : World} {g : Nat} {Ls : List Int} {gx ix gy iy : Nat} {a c N D : Int}
theorem later (h : Rnd w W g Ls gx ix gy iy a c N D) (hb : Below W.heap.size W V) : Rnd w V g Ls gx ix gy iy a c N D :=
  ⟨h.lv.later hb, h.ls.below hb, ⟨(hb.cell (p := ⟨_, _, none⟩) h.la).trans h.nums.1, (hb.cell (p := ⟨_, _, none⟩) h.lc).trans h.nums.2⟩, Nat.lt_of_lt_of_le h.la hb.size, Nat.lt_of_lt_of_le h.lc hb.size, h.na, h.nc, h.ng⟩
theorem put (h : Rnd w W g Ls gx ix gy iy a c N D) (i : Nat) (v : Value) {N' D' : Int} (hl : LvI w (W.setCell ⟨w.heap.size + 1, i, none⟩ v) N' D') : Rnd w (W.setCell ⟨w.heap.size + 1, i, none⟩ v) g Ls gx ix gy iy a c N' D' := by
  have hc : Chg (fun k : Nat => k = w.heap.size + 1) W (W.setCell ⟨w.heap.size + 1, i, none⟩ v) := (Chg.refl (fun k : Nat => k = w.heap.size + 1) W).set (p := ⟨w.heap.size + 1, i, none⟩) (Or.inl rfl) v
  refine ⟨hl, h.ls.chg hc (fun _ k hk => ?_), ⟨?_, ?_⟩, Nat.lt_of_lt_of_le h.la hc.size, Nat.lt_of_lt_of_le h.lc hc.size, h.na, h.nc, h.ng⟩
  · obtain ⟨p, e, rfl⟩ := hk
    injection e with e
    subst e
    exact h.ng
  · exact (cell_of_block (hc.block _ h.la h.na) _).trans h.nums.1
  · exact (cell_of_block (hc.block _ h.lc h.nc) _).trans h.nums.2
theorem num (h : Rnd w W g Ls gx ix gy iy a c N D) (x : Int) : Rnd w (W.setCell ⟨w.heap.size + 1, 0, none⟩ (.int .i64 x)) g Ls gx ix gy iy a c x D := h.put 0 _ (h.lv.num x)
theorem den (h : Rnd w W g Ls gx ix gy iy a c N D) (x : Int) : Rnd w (W.setCell ⟨w.heap.size + 1, 1, none⟩ (.int .i64 x)) g Ls gx ix gy iy a c N x := h.put 1 _ (h.lv.den x)
end Rnd
theorem laid_level (w : World) (N D : Int) : LvI w (laidF (laidF w 0 0) N D) N D := by
  have h1 := laidF_at w 0 0
  have h2 := laidF_at (laidF w 0 0) N D
  exact ⟨h1.2.1.trans (h2.2.1.mono h1.2.1.size), h1.1.below h2.2.1, by have := h2.1; rwa [h1.2.2] at this⟩
theorem nat_at {L : List Nat} {i : Nat} {x : Int} (h : (L.map fun k : Nat => (k : Int))[i]? = some x) : ∃ k : Nat, L[i]? = some k ∧ x = (k : Int) := by
  rw [List.getElem?_map, Option.map_eq_some_iff] at h
  obtain ⟨k, h1, h2⟩ := h
  exact ⟨k, h1, h2.symm⟩
/-- What Level answers. -/
def Levelled (w : World) (N D E : Int) (e : Ending) (w' : World) : Prop := e = .returned (.tuple #[.agg #[.int .i64 N, .int .i64 D], .int .i64 E]) ∧ Below w.heap.size w w'

set_option maxRecDepth 100000 in
set_option maxHeartbeats 4000000 in
theorem level_bad {w : World} {A B : Option Addr} {xs ys : List Int} (hx : IntsIn w A xs) (hy : IntsIn w B ys) (cx cy : Nat) (all E : Int) (hE : wrongL all xs ys = E) (h12 : E = 1 ∨ E = 2) :
    Calls Try.prog 8 #[.int .i64 all, .slice A xs.length cx, .slice B ys.length cy] w (Levelled w 0 0 E) := by
  have HX := Lib.hid (laidF_at w 0 0)
  have HW := Lib.hid (fun W (hW : Below w.heap.size w W) => wrong_any (hx.below hW) (hy.below hW) cx cy all)
  rw [hE] at HW
  have HZ : Hid (∀ W, FrAt W w.heap.size 0 0 → Below w.heap.size w W → Levelled w 0 0 E (.returned (.tuple #[.agg #[.int .i64 0, .int .i64 0], .int .i64 E])) W) := Lib.hid (fun W _ h => ⟨rfl, h⟩)
  generalize Levelled w 0 0 E = D at *
  clear hx hy hE
  rcases h12 with rfl | rfl
  all_goals
    go_enter Try.func8, Try.ntmps8
    go_upto_region 1 with fail
    change Code.wp _ _ _ _ (laidF w 0 0)
    generalize laidF w 0 0 = m at *
    go_wp2_with fail
    refine (HW.out _ HX.out.2.1).mono ?_
    rintro e w1 ⟨rfl, rfl⟩
    clear HW
    go_wp2_with (refine wpList_store_fr rfl (.tmp 6) (.tmp 18) rfl w.heap.size 0 0 0 0 rfl rfl HX.out.1 ?_)
    exact bodyPost_ret (results_fr2 6 7 rfl _ _ rfl (HX.out.1.stored 0 0)) rfl (HZ.out _ (HX.out.1.stored 0 0) (below_setRow HX.out.2.1 (Nat.le_refl _) _))

set_option maxRecDepth 100000 in
set_option maxHeartbeats 16000000 in
theorem level_ok {w : World} {A B : Option Addr} {xs ys : List Int} (hx : IntsIn w A xs) (hy : IntsIn w B ys) (cx cy : Nat) {all : Int} (hR : Right all xs ys) {N D : Int} (hL : Level all (fn xs) (fn ys) xs.length N D) :
    Calls Try.prog 8 #[.int .i64 all, .slice A xs.length cx, .slice B ys.length cy] w (Levelled w N D 0) := by
  have hw0 : wrongL all xs ys = 0 := by
    rcases wrongL_way all xs ys with ⟨_, h⟩ | ⟨h1, _⟩ | ⟨h1, _⟩
    · exact absurd hR.len.symm h
    · exfalso
      unfold wrongL at h1
      rw [if_neg (by rw [hR.len]; simp), (show (am all || (decide (16 < (xs.length : Int)) || (xs.any am || ys.any wg))) = false from ?_)] at h1
      · exact absurd h1 (by decide)
      · rw [Bool.or_eq_false_iff, Bool.or_eq_false_iff, Bool.or_eq_false_iff, am_false, decide_eq_false_iff_not, List.any_eq_false, List.any_eq_false]
        exact ⟨hR.all, by have := hR.few; omega, fun x hx => by simpa using am_false.2 (hR.wants x hx), fun y hy => by simpa using wg_false.2 (hR.weights y hy)⟩
    · exact h1
  have HX0 := Lib.hid (laidF_at w 0 0)
  obtain ⟨n, hn⟩ : ∃ n, xs.length = n := ⟨_, rfl⟩
  have hm : ys.length = n := by rw [hR.len, hn]
  have h16 : n ≤ 16 := by rw [← hn]; exact hR.few
  have hv : ∀ k, k < n → 1 ≤ fn ys k := fun k hk => (hR.weight (by omega)).1
  have htot : tot ys = su (fn ys) n := by rw [tot_su, hm]
  have HW := Lib.hid (fun W (hW : Below w.heap.size w W) => wrong_any (hx.below hW) (hy.below hW) cx cy all)
  have HT := Lib.hid (fun W (hW : Below w.heap.size w W) => total_any (hy.below hW) cy hR.weights (by omega))
  have HA := Lib.hid (fun W (hW : Below w.heap.size w W) => ascending_any (hx.below hW) (hy.below hW) hR cx cy)
  have HPX := Lib.hid (fun W (hW : Below w.heap.size w W) => hx.below hW)
  have HPY := Lib.hid (fun W (hW : Below w.heap.size w W) => hy.below hW)
  have HL := Lib.hid (fun N' D' (h : Level all (fn xs) (fn ys) n N' D') => (hn ▸ hL).unique h hv)
  have HV := Lib.hid hv
  have HRT := Lib.hid hR
  have HN := Lib.hid (And.intro hn hm)
  unfold Ascended at HA
  rw [hw0] at HW
  rw [htot] at HT
  have hx0 : 0 < n → ∃ b off, A = some ⟨b, off, none⟩ ∧ b < w.heap.size := fun h => by
    obtain ⟨b, off, e, hl, _⟩ := hx.at_ (by omega)
    exact ⟨b, off, e, hl⟩
  have hy0 : 0 < n → ∃ b off, B = some ⟨b, off, none⟩ ∧ b < w.heap.size := fun h => by
    obtain ⟨b, off, e, hl, _⟩ := hy.at_ (by omega)
    exact ⟨b, off, e, hl⟩
  have HX0L := Lib.hid (And.intro hx0 hy0)
  rw [hn, hm] at HW HA ⊢
  rw [hm] at HT
  have HZ : Hid (∀ W, FrAt W w.heap.size N D → Below w.heap.size w W → Levelled w N D 0 (.returned (.tuple #[.agg #[.int .i64 N, .int .i64 D], .int .i64 0])) W) := Lib.hid (fun W _ h => ⟨rfl, h⟩)
  generalize Levelled w N D 0 = DD at *
  have HM := Lib.hid (fun (L : List Nat) (hp : L.Perm (List.range n)) => Mid.start (w := fn xs) hR.all.1 hv hp)
  have HS0 := Lib.hid (laid_level w all (su (fn ys) n))
  generalize su (fn ys) n = T at *
  clear hx hy hR hL hn hm hw0 htot hv hx0 hy0
  go_enter Try.func8, Try.ntmps8
  go_upto_region 1 with fail
  change Code.wp _ _ _ _ (laidF w 0 0)
  generalize laidF w 0 0 = m at *
  go_wp2_with fail
  refine (HW.out _ HX0.out.2.1).mono ?_
  rintro e w1 ⟨rfl, rfl⟩
  clear HW
  go_wp2_with fail
  refine (HT.out _ HX0.out.2.1).mono ?_
  rintro e w1 ⟨rfl, rfl⟩
  have hsz := HX0.out.2.2
  go_upto_region 5 with fail
  clear HT
  change Code.wp _ _ _ _ (laidF m all T)
  clear hsz
  generalize laidF m all T = m1 at *
  go_wp2_with fail
  refine (HA.out _ HS0.out.below).mono ?_
  rintro e w2 ⟨g, L, rfl, hp, hasc, hi, hg, hb⟩
  have HI : Hid (LvI w w2 all T ∧ Mid all (fn xs) (fn ys) n L 0 all T ∧ IntsIn w2 (some ⟨g, 0, none⟩) (L.map fun k : Nat => (k : Int))) := Lib.hid ⟨HS0.out.later hb, HM.out L hp, hi⟩
  have HG : Hid (g ≠ w.heap.size + 1 ∧ L.length = n) := Lib.hid (by
    have := HS0.out.lev.lt
    have h2 := hp.length_eq
    rw [List.length_range] at h2
    exact ⟨by omega, h2⟩)
  have HP := Lib.hid (And.intro hp hasc)
  clear hp hasc hi hg hb HA HM HS0 HX0
  go_wp2_with fail
  go_loopg [28] n (fun k c wr => ∃ (i : Nat) (N0 D0 : Int), c = .int .i64 (i : Int) ∧ i + k = n ∧ Hid (LvI w wr N0 D0 ∧ Mid all (fn xs) (fn ys) n L i N0 D0 ∧ IntsIn wr (some ⟨g, 0, none⟩) (L.map fun k : Nat => (k : Int))))
  case atStart => exact ⟨0, all, T, rfl, by omega, HI⟩
  case round =>
    clear HI
    obtain ⟨i, N0, D0, rfl, hik, HI⟩ := hrel
    cases gk with
    | zero =>
      obtain rfl : i = n := by omega
      obtain ⟨rfl, rfl⟩ := HL.out 0 0 (HI.out.2.1.all HV.out (by have := HG.out.2; omega))
      have HX := Lib.hid HI.out.1
      clear HI HL HP HPX HPY HRT HN HV
      go_wp2_with (refine wpList_store_fr rfl (.tmp 6) (.tmp 60) rfl w.heap.size 0 0 0 0 rfl rfl HX.out.res ?_)
      exact bodyPost_ret (results_fr2 6 7 rfl _ _ rfl (HX.out.ended 0 0).1) rfl (HZ.out _ (HX.out.ended 0 0).1 (HX.out.ended 0 0).2)
    | succ k =>
      have hi : i < n := by omega
      have i1 : (i : Int) < (n : Int) := by omega
      obtain ⟨gg, oo, x, eg, hx, hat, _⟩ := HI.out.2.2.next (i := i) (by rw [List.length_map, HG.out.2]; exact hi)
      injection eg with eg
      simp only [Addr.mk.injEq, and_true] at eg
      obtain ⟨rfl, rfl⟩ := eg
      rw [Nat.zero_add] at hat
      obtain ⟨kk, hkk, rfl⟩ := nat_at hx
      have hkn := Mid.lt HP.out.1 hkk
      have k1 : (kk : Int) < (n : Int) := by omega
      obtain ⟨gx, ox, a, rfl, ha, hca, hla⟩ := (HPX.out _ HI.out.1.below).next (i := kk) (by rw [HN.out.1]; exact hkn)
      obtain ⟨gy, oy, c, rfl, hc, hcc, hlc⟩ := (HPY.out _ HI.out.1.below).next (i := kk) (by rw [HN.out.2]; exact hkn)
      have hfa := fn_at ha
      have hfc := fn_at hc
      have hab := HRT.out.want0 kk
      have hcb := HRT.out.weight0 kk
      rw [hfa] at hab
      rw [hfc] at hcb
      have hbd := HI.out.2.1.bounds HRT.out.all HRT.out.want0 HRT.out.weight0 h16
      have HSH := Lib.hid (fun W => short_any (a := a) (c := c) (n := N0) (d := D0) (by omega) (by omega) (by omega) hbd.2 W)
      have HSD : Hid (c * N0 < a * D0 → N = N0 ∧ D = D0) := Lib.hid (fun h => HL.out N0 D0 (HI.out.2.1.short HV.out HP.out.1 HP.out.2 hkk (by rw [hfa, hfc]; exact h)))
      have HNX : Hid (¬ c * N0 < a * D0 → Mid all (fn xs) (fn ys) n L (i + 1) (N0 - a) (D0 - c)) := Lib.hid (fun h => by
        have := HI.out.2.1.next HV.out HP.out.1 hkk (by rw [hfa, hfc]; exact h)
        rwa [hfa, hfc] at this)
      obtain ⟨N1, q1, hN1⟩ : ∃ N1, IntKind.i64.wrap (N0 - a) = N1 ∧ N1 = N0 - a := ⟨_, rfl, wrap_in (by omega) (by omega)⟩
      obtain ⟨D1, q2, hD1⟩ : ∃ D1, IntKind.i64.wrap (D0 - c) = D1 ∧ D1 = D0 - c := ⟨_, rfl, wrap_in (by omega) (by omega)⟩
      have HE := Lib.hid (And.intro hN1 hD1)
      have HIK := Lib.hid hik
      have HX : Hid (Rnd w wr g (L.map fun k : Nat => (k : Int)) gx (ox + kk) gy (oy + kk) a c N0 D0) := Lib.hid (by
        obtain ⟨b, off, e, hl⟩ := HX0L.out.1 (by omega)
        obtain ⟨b2, off2, e2, hl2⟩ := HX0L.out.2 (by omega)
        injection e with e
        injection e2 with e2
        simp only [Addr.mk.injEq, and_true] at e e2
        exact ⟨HI.out.1, HI.out.2.2, ⟨hca, hcc⟩, hla, hlc, by omega, by omega, HG.out.1⟩)
      obtain ⟨J, hJ⟩ : ∃ J, decide (c * N0 < a * D0) = J := ⟨_, rfl⟩
      rw [hJ] at HSH
      have HJ := Lib.hid hJ
      clear hJ hfa hfc hab hcb hbd hN1 hD1 hx hkk ha hc hla hlc hca hcc HI hkn HRT HV HPX HPY HN hik
      go_upto_region 8 with fail
      clear hat
      have HS : Hid (∀ W, Below wr.heap.size wr W → (fun W : World => W.cell? ⟨gx, ox + kk, none⟩ = some (.int .i64 a) ∧ W.cell? ⟨gy, oy + kk, none⟩ = some (.int .i64 c) ∧ W.cell? ⟨w.heap.size + 1, 0, none⟩ = some (.int .i64 N0) ∧ W.cell? ⟨w.heap.size + 1, 1, none⟩ = some (.int .i64 D0)) W) := Lib.hid (fun W hW => by
        obtain ⟨c0, c1⟩ := (HX.out.later hW).lv.lev.cells
        obtain ⟨n0, n1⟩ := (HX.out.later hW).nums
        exact ⟨n0, n1, c0, c1⟩)
      refine wp_region_held_drew (S := (fun W : World => W.cell? ⟨gx, ox + kk, none⟩ = some (.int .i64 a) ∧ W.cell? ⟨gy, oy + kk, none⟩ = some (.int .i64 c) ∧ W.cell? ⟨w.heap.size + 1, 0, none⟩ = some (.int .i64 N0) ∧ W.cell? ⟨w.heap.size + 1, 1, none⟩ = some (.int .i64 D0))) (by kernel_rfl) (HS.out _ (Below.refl _ _).drew) (fun hHeld => ?_)
      obtain ⟨w0, hw0⟩ : ∃ W0, W0 = wr.drew := ⟨_, rfl⟩
      have HB0 : Hid (Below wr.heap.size wr w0) := Lib.hid (by rw [hw0]; exact (Below.refl _ _).drew)
      rw [← hw0] at hHeld ⊢
      clear hw0
      refine wpAnyH_take (i := 0) (v := ?_) (by simp only [List.getElem?_toArray, List.getElem?_cons_zero] <;> rfl) (by kernel_rfl) (by kernel_rfl) (by kernel_rfl) (by exact fun _ _ _ h => h) (Or.inl ⟨by rfl, ?_⟩) hHeld ?_
      rotate_left
      · intro w hSw; (try dsimp only at hSw); go_simp; (try with_reducible rfl)
      (try simp only [Act.put, List.setIfInBounds_toArray, List.set_cons_zero, List.set_cons_succ])
      refine wpAnyH_take (i := 1) (v := ?_) (by simp only [List.getElem?_toArray, List.getElem?_cons_succ, List.getElem?_cons_zero] <;> rfl) (by kernel_rfl) (by kernel_rfl) (by kernel_rfl) (by exact fun _ _ _ h => h) (Or.inl ⟨by rfl, ?_⟩) hHeld ?_
      rotate_left
      · intro w hSw; (try dsimp only at hSw); go_simp; (try with_reducible rfl)
      (try simp only [Act.put, List.setIfInBounds_toArray, List.set_cons_zero, List.set_cons_succ])
      refine wpAnyH_take (i := 2) (v := ?_) (by simp only [List.getElem?_toArray, List.getElem?_cons_succ, List.getElem?_cons_zero] <;> rfl) (by kernel_rfl) (by kernel_rfl) (by kernel_rfl) (by exact fun _ _ _ h => h) (Or.inl ⟨by rfl, ?_⟩) hHeld ?_
      rotate_left
      · intro w hSw; (try dsimp only at hSw); go_simp; (try with_reducible rfl)
      (try simp only [Act.put, List.setIfInBounds_toArray, List.set_cons_zero, List.set_cons_succ])
      refine wpAnyH_take (i := 3) (v := ?_) (by simp only [List.getElem?_toArray, List.getElem?_cons_succ, List.getElem?_cons_zero] <;> rfl) (by kernel_rfl) (by kernel_rfl) (by kernel_rfl) (by exact fun _ _ _ h => h) (Or.inl ⟨by rfl, ?_⟩) hHeld ?_
      rotate_left
      · intro w hSw; (try dsimp only at hSw); go_simp; (try with_reducible rfl)
      (try simp only [Act.put, List.setIfInBounds_toArray, List.set_cons_zero, List.set_cons_succ])
      refine wpAnyH_take (i := 4) (v := ?_) (by simp only [List.getElem?_toArray, List.getElem?_cons_succ, List.getElem?_cons_zero] <;> rfl) (by kernel_rfl) (by kernel_rfl) (by kernel_rfl) (by exact fun _ _ _ h => h) (Or.inl ⟨by rfl, ?_⟩) hHeld ?_
      rotate_left
      · intro w hSw; (try dsimp only at hSw); go_simp; (try with_reducible rfl)
      (try simp only [Act.put, List.setIfInBounds_toArray, List.set_cons_zero, List.set_cons_succ])
      refine wpAnyH_take (i := 5) (v := ?_) (by simp only [List.getElem?_toArray, List.getElem?_cons_succ, List.getElem?_cons_zero] <;> rfl) (by kernel_rfl) (by kernel_rfl) (by kernel_rfl) (by exact fun _ _ _ h => h) (Or.inl ⟨by rfl, ?_⟩) hHeld ?_
      rotate_left
      · intro w hSw; (try dsimp only at hSw); go_simp; (try with_reducible rfl)
      (try simp only [Act.put, List.setIfInBounds_toArray, List.set_cons_zero, List.set_cons_succ])
      refine wpAnyH_take (i := 6) (v := ?_) (by simp only [List.getElem?_toArray, List.getElem?_cons_succ, List.getElem?_cons_zero] <;> rfl) (by kernel_rfl) (by kernel_rfl) (by kernel_rfl) (by exact fun _ _ _ h => h) (Or.inl ⟨by rfl, ?_⟩) hHeld ?_
      rotate_left
      · intro w hSw; (try dsimp only at hSw); go_simp; (try with_reducible rfl)
      (try simp only [Act.put, List.setIfInBounds_toArray, List.set_cons_zero, List.set_cons_succ])
      refine wpAnyH_take (i := 7) (v := ?_) (by simp only [List.getElem?_toArray, List.getElem?_cons_succ, List.getElem?_cons_zero] <;> rfl) (by kernel_rfl) (by kernel_rfl) (by kernel_rfl) (by exact fun _ _ _ h => h) (Or.inl ⟨by rfl, ?_⟩) hHeld ?_
      rotate_left
      · intro w hSw; (try dsimp only at hSw); go_simp; (try with_reducible rfl)
      (try simp only [Act.put, List.setIfInBounds_toArray, List.set_cons_zero, List.set_cons_succ])
      refine wpAnyH_take (i := 8) (v := ?_) (by simp only [List.getElem?_toArray, List.getElem?_cons_succ, List.getElem?_cons_zero] <;> rfl) (by kernel_rfl) (by kernel_rfl) (by kernel_rfl) (by exact fun _ _ _ h => h) (Or.inl ⟨by rfl, ?_⟩) hHeld ?_
      rotate_left
      · intro w hSw; (try dsimp only at hSw); go_simp; (try with_reducible rfl)
      (try simp only [Act.put, List.setIfInBounds_toArray, List.set_cons_zero, List.set_cons_succ])
      refine wpAnyH_ready (rs := [9]) (by kernel_rfl) (by simp) ?_
      refine AllReadyH.cons (by simp only [List.getElem?_toArray, List.getElem?_cons_succ, List.getElem?_cons_zero] <;> rfl) (fun K hK => ?_) AllReadyH.nil
      go_simp
      go_at_call 21
      refine (HSH.out _).mono ?_
      rintro e w1 ⟨rfl, hb1⟩
      have HB1 := Lib.hid (HB0.out.trans (hb1.mono HB0.out.size))
      clear hb1
      go_wp2_with fail
      refine hK.out _ _ ?_ (fun hHeld => ?_)
      · exact HS.out _ HB1.out
      clear hK K
      (try simp only [Act.put, List.setIfInBounds_toArray, List.set_cons_zero, List.set_cons_succ])
      refine wpAnyH_done (by kernel_rfl) ?_ _
      have HX1 := Lib.hid (HX.out.later HB1.out)
      clear HX HS HB0 HB1 hHeld HSH
      have HX := HX1
      clear HX1
      cases J with
      | true =>
        obtain ⟨rfl, rfl⟩ := HSD.out (of_decide_eq_true HJ.out)
        clear HSD HNX HE HL HP
        obtain ⟨c0, c1⟩ := HX.out.lv.lev.cells
        go_wp2_with (refine wpList_store_fr rfl (.tmp 6) (.tmp 42) rfl w.heap.size _ _ 0 0 rfl rfl HX.out.lv.res ?_)
        exact bodyPost_ret (results_fr2 6 7 rfl _ _ rfl (HX.out.lv.ended _ _).1) rfl (HZ.out _ (HX.out.lv.ended _ _).1 (HX.out.lv.ended _ _).2)
      | false =>
        have HNX2 := Lib.hid (HNX.out (by have := of_decide_eq_false HJ.out; omega))
        clear HSD HNX HJ
        go_upto_region 10 with fail
        have HS : Hid (∀ V, Below w1.heap.size w1 V → (fun W : World => W.cell? ⟨gx, ox + kk, none⟩ = some (.int .i64 a) ∧ W.cell? ⟨gy, oy + kk, none⟩ = some (.int .i64 c)) V) := Lib.hid (fun V hV => (HX.out.later hV).nums)
        refine wp_region_held_drew (S := (fun W : World => W.cell? ⟨gx, ox + kk, none⟩ = some (.int .i64 a) ∧ W.cell? ⟨gy, oy + kk, none⟩ = some (.int .i64 c))) (by kernel_rfl) (HS.out _ (Below.refl _ _).drew) (fun hHeld => ?_)
        obtain ⟨w0, hw0⟩ : ∃ W0, W0 = w1.drew := ⟨_, rfl⟩
        have HB0 : Hid (Below w1.heap.size w1 w0) := Lib.hid (by rw [hw0]; exact (Below.refl _ _).drew)
        rw [← hw0] at hHeld ⊢
        clear hw0
        refine wpAnyH_take (i := 0) (v := ?_) (by simp only [List.getElem?_toArray, List.getElem?_cons_zero] <;> rfl) (by kernel_rfl) (by kernel_rfl) (by kernel_rfl) (by exact fun _ _ _ h => h) (Or.inl ⟨by rfl, ?_⟩) hHeld ?_
        rotate_left
        · intro w hSw; (try dsimp only at hSw); go_simp; (try with_reducible rfl)
        (try simp only [Act.put, List.setIfInBounds_toArray, List.set_cons_zero, List.set_cons_succ])
        refine wpAnyH_take (i := 2) (v := ?_) (by simp only [List.getElem?_toArray, List.getElem?_cons_succ, List.getElem?_cons_zero] <;> rfl) (by kernel_rfl) (by kernel_rfl) (by kernel_rfl) (by exact fun _ _ _ h => h) (Or.inl ⟨by rfl, ?_⟩) hHeld ?_
        rotate_left
        · intro w hSw; (try dsimp only at hSw); go_simp; (try with_reducible rfl)
        (try simp only [Act.put, List.setIfInBounds_toArray, List.set_cons_zero, List.set_cons_succ])
        refine wpAnyH_take (i := 3) (v := ?_) (by simp only [List.getElem?_toArray, List.getElem?_cons_succ, List.getElem?_cons_zero] <;> rfl) (by kernel_rfl) (by kernel_rfl) (by kernel_rfl) (by exact fun _ _ _ h => h) (Or.inl ⟨by rfl, ?_⟩) hHeld ?_
        rotate_left
        · intro w hSw; (try dsimp only at hSw); go_simp; (try with_reducible rfl)
        (try simp only [Act.put, List.setIfInBounds_toArray, List.set_cons_zero, List.set_cons_succ])
        refine wpAnyH_take (i := 4) (v := ?_) (by simp only [List.getElem?_toArray, List.getElem?_cons_succ, List.getElem?_cons_zero] <;> rfl) (by kernel_rfl) (by kernel_rfl) (by kernel_rfl) (by exact fun _ _ _ h => h) (Or.inl ⟨by rfl, ?_⟩) hHeld ?_
        rotate_left
        · intro w hSw; (try dsimp only at hSw); go_simp; (try with_reducible rfl)
        (try simp only [Act.put, List.setIfInBounds_toArray, List.set_cons_zero, List.set_cons_succ])
        refine wpAnyH_take (i := 5) (v := ?_) (by simp only [List.getElem?_toArray, List.getElem?_cons_succ, List.getElem?_cons_zero] <;> rfl) (by kernel_rfl) (by kernel_rfl) (by kernel_rfl) (by exact fun _ _ _ h => h) (Or.inl ⟨by rfl, ?_⟩) hHeld ?_
        rotate_left
        · intro w hSw; (try dsimp only at hSw); go_simp; (try with_reducible rfl)
        (try simp only [Act.put, List.setIfInBounds_toArray, List.set_cons_zero, List.set_cons_succ])
        refine wpAnyH_ready (rs := [1]) (by kernel_rfl) (by simp) ?_
        refine AllReadyH.cons (by simp only [List.getElem?_toArray, List.getElem?_cons_succ, List.getElem?_cons_zero] <;> rfl) (fun K hK => ?_) AllReadyH.nil
        have HX2 := Lib.hid (HX.out.later HB0.out)
        clear HX
        obtain ⟨c0, c1⟩ := HX2.out.lv.lev.cells
        go_simp
        refine hK.out _ _ ?_ (fun hHeld => ?_)
        · exact HS.out _ HB0.out
        clear hK K
        (try simp only [Act.put, List.setIfInBounds_toArray, List.set_cons_zero, List.set_cons_succ])
        clear c0 c1
        refine wpAnyH_take (i := 6) (v := ?_) (by simp only [List.getElem?_toArray, List.getElem?_cons_succ, List.getElem?_cons_zero] <;> rfl) (by kernel_rfl) (by kernel_rfl) (by kernel_rfl) (by exact fun _ _ _ h => h) (Or.inl ⟨by rfl, ?_⟩) hHeld ?_
        rotate_left
        · intro w hSw; (try dsimp only at hSw); go_simp; (try with_reducible rfl)
        (try simp only [Act.put, List.setIfInBounds_toArray, List.set_cons_zero, List.set_cons_succ])
        refine wpAnyH_take (i := 7) (v := ?_) (by simp only [List.getElem?_toArray, List.getElem?_cons_succ, List.getElem?_cons_zero] <;> rfl) (by kernel_rfl) (by kernel_rfl) (by kernel_rfl) (by exact fun _ _ _ h => h) (Or.inl ⟨by rfl, ?_⟩) hHeld ?_
        rotate_left
        · intro w hSw; (try dsimp only at hSw); go_simp; (try with_reducible rfl)
        (try simp only [Act.put, List.setIfInBounds_toArray, List.set_cons_zero, List.set_cons_succ])
        refine wpAnyH_ready (rs := [8]) (by kernel_rfl) (by simp) ?_
        refine AllReadyH.cons (by simp only [List.getElem?_toArray, List.getElem?_cons_succ, List.getElem?_cons_zero] <;> rfl) (fun K hK => ?_) AllReadyH.nil
        obtain ⟨c0, c1⟩ := HX2.out.lv.lev.cells
        have hf := HX2.out.lv.lev.thawed 0
        go_simp
        have HX := Lib.hid (HX2.out.num N1)
        refine hK.out _ _ ?_ (fun hHeld => ?_)
        · exact HX.out.nums
        clear hK K c0 c1 hf HX2
        (try simp only [Act.put, List.setIfInBounds_toArray, List.set_cons_zero, List.set_cons_succ])
        refine wpAnyH_done (by kernel_rfl) ?_ _
        clear hHeld HS HB0
        generalize w0.setCell ⟨w.heap.size + 1, 0, none⟩ (.int .i64 N1) = w2 at *
        go_upto_region 11 with fail
        have HS : Hid (∀ V, Below w2.heap.size w2 V → (fun W : World => W.cell? ⟨gx, ox + kk, none⟩ = some (.int .i64 a) ∧ W.cell? ⟨gy, oy + kk, none⟩ = some (.int .i64 c)) V) := Lib.hid (fun V hV => (HX.out.later hV).nums)
        refine wp_region_held_drew (S := (fun W : World => W.cell? ⟨gx, ox + kk, none⟩ = some (.int .i64 a) ∧ W.cell? ⟨gy, oy + kk, none⟩ = some (.int .i64 c))) (by kernel_rfl) (HS.out _ (Below.refl _ _).drew) (fun hHeld => ?_)
        obtain ⟨w0, hw0⟩ : ∃ W0, W0 = w2.drew := ⟨_, rfl⟩
        have HB0 : Hid (Below w2.heap.size w2 w0) := Lib.hid (by rw [hw0]; exact (Below.refl _ _).drew)
        rw [← hw0] at hHeld ⊢
        clear hw0
        refine wpAnyH_take (i := 0) (v := ?_) (by simp only [List.getElem?_toArray, List.getElem?_cons_zero] <;> rfl) (by kernel_rfl) (by kernel_rfl) (by kernel_rfl) (by exact fun _ _ _ h => h) (Or.inl ⟨by rfl, ?_⟩) hHeld ?_
        rotate_left
        · intro w hSw; (try dsimp only at hSw); go_simp; (try with_reducible rfl)
        (try simp only [Act.put, List.setIfInBounds_toArray, List.set_cons_zero, List.set_cons_succ])
        refine wpAnyH_take (i := 2) (v := ?_) (by simp only [List.getElem?_toArray, List.getElem?_cons_succ, List.getElem?_cons_zero] <;> rfl) (by kernel_rfl) (by kernel_rfl) (by kernel_rfl) (by exact fun _ _ _ h => h) (Or.inl ⟨by rfl, ?_⟩) hHeld ?_
        rotate_left
        · intro w hSw; (try dsimp only at hSw); go_simp; (try with_reducible rfl)
        (try simp only [Act.put, List.setIfInBounds_toArray, List.set_cons_zero, List.set_cons_succ])
        refine wpAnyH_take (i := 3) (v := ?_) (by simp only [List.getElem?_toArray, List.getElem?_cons_succ, List.getElem?_cons_zero] <;> rfl) (by kernel_rfl) (by kernel_rfl) (by kernel_rfl) (by exact fun _ _ _ h => h) (Or.inl ⟨by rfl, ?_⟩) hHeld ?_
        rotate_left
        · intro w hSw; (try dsimp only at hSw); go_simp; (try with_reducible rfl)
        (try simp only [Act.put, List.setIfInBounds_toArray, List.set_cons_zero, List.set_cons_succ])
        refine wpAnyH_take (i := 4) (v := ?_) (by simp only [List.getElem?_toArray, List.getElem?_cons_succ, List.getElem?_cons_zero] <;> rfl) (by kernel_rfl) (by kernel_rfl) (by kernel_rfl) (by exact fun _ _ _ h => h) (Or.inl ⟨by rfl, ?_⟩) hHeld ?_
        rotate_left
        · intro w hSw; (try dsimp only at hSw); go_simp; (try with_reducible rfl)
        (try simp only [Act.put, List.setIfInBounds_toArray, List.set_cons_zero, List.set_cons_succ])
        refine wpAnyH_take (i := 5) (v := ?_) (by simp only [List.getElem?_toArray, List.getElem?_cons_succ, List.getElem?_cons_zero] <;> rfl) (by kernel_rfl) (by kernel_rfl) (by kernel_rfl) (by exact fun _ _ _ h => h) (Or.inl ⟨by rfl, ?_⟩) hHeld ?_
        rotate_left
        · intro w hSw; (try dsimp only at hSw); go_simp; (try with_reducible rfl)
        (try simp only [Act.put, List.setIfInBounds_toArray, List.set_cons_zero, List.set_cons_succ])
        refine wpAnyH_ready (rs := [1]) (by kernel_rfl) (by simp) ?_
        refine AllReadyH.cons (by simp only [List.getElem?_toArray, List.getElem?_cons_succ, List.getElem?_cons_zero] <;> rfl) (fun K hK => ?_) AllReadyH.nil
        have HX2 := Lib.hid (HX.out.later HB0.out)
        clear HX
        obtain ⟨c0, c1⟩ := HX2.out.lv.lev.cells
        go_simp
        refine hK.out _ _ ?_ (fun hHeld => ?_)
        · exact HS.out _ HB0.out
        clear hK K
        (try simp only [Act.put, List.setIfInBounds_toArray, List.set_cons_zero, List.set_cons_succ])
        clear c0 c1
        refine wpAnyH_take (i := 6) (v := ?_) (by simp only [List.getElem?_toArray, List.getElem?_cons_succ, List.getElem?_cons_zero] <;> rfl) (by kernel_rfl) (by kernel_rfl) (by kernel_rfl) (by exact fun _ _ _ h => h) (Or.inl ⟨by rfl, ?_⟩) hHeld ?_
        rotate_left
        · intro w hSw; (try dsimp only at hSw); go_simp; (try with_reducible rfl)
        (try simp only [Act.put, List.setIfInBounds_toArray, List.set_cons_zero, List.set_cons_succ])
        refine wpAnyH_take (i := 7) (v := ?_) (by simp only [List.getElem?_toArray, List.getElem?_cons_succ, List.getElem?_cons_zero] <;> rfl) (by kernel_rfl) (by kernel_rfl) (by kernel_rfl) (by exact fun _ _ _ h => h) (Or.inl ⟨by rfl, ?_⟩) hHeld ?_
        rotate_left
        · intro w hSw; (try dsimp only at hSw); go_simp; (try with_reducible rfl)
        (try simp only [Act.put, List.setIfInBounds_toArray, List.set_cons_zero, List.set_cons_succ])
        refine wpAnyH_ready (rs := [8]) (by kernel_rfl) (by simp) ?_
        refine AllReadyH.cons (by simp only [List.getElem?_toArray, List.getElem?_cons_succ, List.getElem?_cons_zero] <;> rfl) (fun K hK => ?_) AllReadyH.nil
        obtain ⟨c0, c1⟩ := HX2.out.lv.lev.cells
        have hf := HX2.out.lv.lev.thawed 1
        go_simp
        have HX := Lib.hid (HX2.out.den D1)
        refine hK.out _ _ ?_ (fun hHeld => ?_)
        · exact HX.out.nums
        clear hK K c0 c1 hf HX2
        (try simp only [Act.put, List.setIfInBounds_toArray, List.set_cons_zero, List.set_cons_succ])
        refine wpAnyH_done (by kernel_rfl) ?_ _
        clear hHeld HS HB0
        generalize w0.setCell ⟨w.heap.size + 1, 1, none⟩ (.int .i64 D1) = w3 at *
        go_wp2_with fail
        go_roundg k
        case measure => omega
        case rel => exact ⟨i + 1, N1, D1, by go_num, by have := HIK.out; omega, Lib.hid ⟨HX.out.lv, by rw [HE.out.1, HE.out.2]; exact HNX2.out, HX.out.ls⟩⟩
end Go.Proofs.Ytlpchakoikmbnaa
