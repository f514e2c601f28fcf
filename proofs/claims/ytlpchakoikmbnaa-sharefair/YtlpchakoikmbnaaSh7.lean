/- Package share: Gets. -/
import Derived.Test.YtlpchakoikmbnaaSh6
namespace Go.Proofs.Ytlpchakoikmbnaa
open Go.RowKit Go.Maps

/-- Fractions lie in memory, one behind the other. -/
structure FrsIn (w : World) (A : Option Addr) (gs : List (Int × Int)) : Prop where
  at_ : 0 < gs.length → ∃ b off, A = some ⟨b, off, none⟩ ∧ b < w.heap.size ∧ ∀ j p, gs[j]? = some p → w.cell? ⟨b, off + j * 2, none⟩ = some (.int .i64 p.1) ∧ w.cell? ⟨b, off + j * 2 + 1, none⟩ = some (.int .i64 p.2)
theorem FrsIn.below {w w' : World} {A : Option Addr} {gs : List (Int × Int)} (h : FrsIn w A gs) (hb : Below w.heap.size w w') : FrsIn w' A gs := by
  refine ⟨fun h0 => ?_⟩
  obtain ⟨b, off, e, hl, hc⟩ := h.at_ h0
  exact ⟨b, off, e, Nat.lt_of_lt_of_le hl hb.size, fun j p hp => ⟨(hb.cell (p := ⟨b, _, none⟩) hl).trans (hc j p hp).1, (hb.cell (p := ⟨b, _, none⟩) hl).trans (hc j p hp).2⟩⟩
theorem FrsIn.next {w : World} {A : Option Addr} {gs : List (Int × Int)} (h : FrsIn w A gs) {i : Nat} (hi : i < gs.length) : ∃ b off n d, A = some ⟨b, off, none⟩ ∧ gs[i]? = some (n, d) ∧ (w.cell? ⟨b, off + i * 2, none⟩ = some (.int .i64 n) ∧ w.cell? ⟨b, off + i * 2 + 1, none⟩ = some (.int .i64 d)) ∧ b < w.heap.size := by
  obtain ⟨b, off, e, hl, hc⟩ := h.at_ (by omega)
  exact ⟨b, off, gs[i].1, gs[i].2, e, List.getElem?_eq_getElem hi, hc i _ (List.getElem?_eq_getElem hi), hl⟩
theorem FrsIn.nil (w : World) (A : Option Addr) : FrsIn w A [] := ⟨fun h => absurd h (by decide)⟩
/-- What all get. -/
def gets (w v : Nat → Int) (N D : Int) (n : Nat) : List (Int × Int) := (List.range n).map fun k => (gN w v N D k, gD w v N D k)
theorem gets_length (w v : Nat → Int) (N D : Int) (n : Nat) : (gets w v N D n).length = n := by simp [gets]
theorem gets_at {w v : Nat → Int} {N D : Int} {n k : Nat} (h : k < n) : (gets w v N D n)[k]? = some (gN w v N D k, gD w v N D k) := by simp [gets, h]
theorem gets_back {w v : Nat → Int} {N D : Int} {n k : Nat} {p : Int × Int} (h : (gets w v N D n)[k]? = some p) : k < n ∧ p = (gN w v N D k, gD w v N D k) := by
  have hk : k < n := by
    have := (List.getElem?_eq_some_iff.1 h).1
    rwa [gets_length] at this
  rw [gets_at hk] at h
  injection h with h
  exact ⟨hk, h.symm⟩
theorem level_bounds {A : Int} {xs ys : List Int} (hR : Right A xs ys) {N D : Int} (hL : Level A (fn xs) (fn ys) xs.length N D) : (0 ≤ N ∧ N ≤ 1048576) ∧ 0 ≤ D ∧ D ≤ 16000 := by
  rcases hL.way with ⟨_, rfl, rfl⟩ | h
  · omega
  · have h1 := h.num0 hR.all.1 (fun k hk => (hR.want hk).1) (fun k hk => (hR.weight hk).1)
    have h2 : 0 ≤ kp (fn xs) (fn ys) N D xs.length := su_nonneg fun k _ => by have := hR.want0 k; split <;> omega
    have h3 : dn (fn xs) (fn ys) N D xs.length ≤ 1000 * (xs.length : Int) := su_bound fun k _ => by have := hR.weight0 k; split <;> omega
    have := h.num
    have := h.den
    have := h.pos
    have := hR.few
    have := hR.all
    omega

def laidR (w : World) (n : Nat) : World := w.alloc (.cells (madeCells #[.int .i64 0, .int .i64 0] (n * 2)) 24)
theorem info_frs : (Try.prog.info? 24).map (fun i => (i.zero, i.size, i.bytes)) = some (some (.agg #[.int .i64 0, .int .i64 0]), 2, 16) := by kernel_rfl
theorem info_three {e : TypeId} {z : Value} {s y : Nat} (h : (Try.prog.info? e).map (fun i => (i.zero, i.size, i.bytes)) = some (some z, s, y)) : ∃ i, Try.prog.info? e = some i ∧ i.zero = some z ∧ i.size = s ∧ i.bytes = y := by
  obtain ⟨i, h1, h2⟩ := Option.map_eq_some_iff.1 h
  simp only [Prod.mk.injEq] at h2
  exact ⟨i, h1, h2⟩
theorem make_frs (n : Nat) (hn : n ≤ 16) (w : World) : (Instr.makeSlice 28 (.int .i64 (n : Int)) (.int .i64 (n : Int))).run Try.prog w = .ok (.slice (some ⟨w.heap.size, 0, none⟩) n n) (laidR w n) := by
  obtain ⟨i, hi, hz, hs, hb⟩ := info_three info_frs
  have hr := run_make (P := Try.prog) w 28 24 i _ Try.underlying28 hi hz .i64 .i64 (n : Int) (n : Int) (by omega) (Int.le_refl _) (by rw [hb]; omega) (by omega)
  rw [hs, Int.toNat_natCast] at hr
  exact hr
theorem laidR_row (w : World) (n : Nat) : (laidR w n).rowIs w.heap.size 24 (n * 2) (fun _ => .int .i64 0) := by
  refine ⟨_, heap_alloc_new _ _, size_madeCells _ _, fun i hi => ?_⟩
  have : i % 2 = 0 ∨ i % 2 = 1 := by omega
  rcases this with h | h <;> simp [madeCells, hi, h]

/-- Between two rounds: the level in block l, what all get in the block behind it. -/
structure GInv (w wr : World) (l n : Nat) (xs ys : List Int) (N D : Int) (i : Nat) : Prop where
  below : Below w.heap.size w wr
  far : w.heap.size ≤ l
  lev : FrAt wr l N D
  row : ∃ F : Nat → Value, wr.rowIs (l + 1) 24 (n * 2) F ∧ ∀ j, j < i → F (j * 2) = .int .i64 (gN (fn xs) (fn ys) N D j) ∧ F (j * 2 + 1) = .int .i64 (gD (fn xs) (fn ys) N D j)
namespace GInv
variable {w wr W : World} {l n : Nat} {xs ys : List Int} {N D : Int} {i : Nat}
theorem later (h : GInv w wr l n xs ys N D i) (hb : Below wr.heap.size wr W) : GInv w W l n xs ys N D i := by
  obtain ⟨F, hr, hF⟩ := h.row
  exact ⟨h.below.trans (hb.mono h.below.size), h.far, h.lev.below hb, ⟨F, hr.of_block (hb.block _ hr.lt), hF⟩⟩
theorem drew (h : GInv w wr l n xs ys N D i) : GInv w wr.drew l n xs ys N D i := h.later (Below.refl _ _).drew
theorem seat (h : GInv w wr l n xs ys N D i) (hi : i < n) : ((∃ x, wr.cell? ⟨l + 1, i * 2, none⟩ = some x) ∧ ∃ x, wr.cell? ⟨l + 1, i * 2 + 1, none⟩ = some x) ∧ wr.frozen? ⟨l + 1, i * 2, none⟩ = false ∧ wr.frozen? ⟨l + 1, i * 2 + 1, none⟩ = false := by
  obtain ⟨F, hr, hF⟩ := h.row
  exact ⟨⟨⟨_, hr.cell (by omega)⟩, ⟨_, hr.cell (by omega)⟩⟩, hr.frozen _, hr.frozen _⟩
theorem put (h : GInv w wr l n xs ys N D i) (x y : Int) : GInv w ((wr.setCell ⟨l + 1, i * 2, none⟩ (.int .i64 x)).setCell ⟨l + 1, i * 2 + 1, none⟩ (.int .i64 y)) l n xs ys N D i := by
  obtain ⟨F, hr, hF⟩ := h.row
  have hf := h.far
  refine ⟨(h.below.setCell (p := ⟨l + 1, _, none⟩) (by show w.heap.size ≤ l + 1; omega) _).setCell (p := ⟨l + 1, _, none⟩) (by show w.heap.size ≤ l + 1; omega) _, h.far, (h.lev.other (by show l ≠ l + 1; omega) _).other (by show l ≠ l + 1; omega) _, ⟨_, (hr.set (i * 2) _).set (i * 2 + 1) _, fun j hj => ⟨?_, ?_⟩⟩⟩
  · rw [if_neg (by omega), if_neg (by omega)]
    exact (hF j hj).1
  · rw [if_neg (by omega), if_neg (by omega)]
    exact (hF j hj).2
theorem done (h : GInv w wr l n xs ys N D i) (hi : i < n) {x y : Int} (hx : wr.cell? ⟨l + 1, i * 2, none⟩ = some (.int .i64 x)) (hy : wr.cell? ⟨l + 1, i * 2 + 1, none⟩ = some (.int .i64 y)) (h1 : x = gN (fn xs) (fn ys) N D i) (h2 : y = gD (fn xs) (fn ys) N D i) : GInv w wr l n xs ys N D (i + 1) := by
  obtain ⟨F, hr, hF⟩ := h.row
  refine ⟨h.below, h.far, h.lev, ⟨F, hr, fun j hj => ?_⟩⟩
  by_cases e : j = i
  · subst e
    rw [hr.cell (by omega)] at hx hy
    injection hx with hx
    injection hy with hy
    rw [hx, hy, h1, h2]
    exact ⟨rfl, rfl⟩
  · exact hF j (by omega)
theorem put_cells (h : GInv w wr l n xs ys N D i) (hi : i < n) (x y : Int) : ((wr.setCell ⟨l + 1, i * 2, none⟩ (.int .i64 x)).setCell ⟨l + 1, i * 2 + 1, none⟩ (.int .i64 y)).cell? ⟨l + 1, i * 2, none⟩ = some (.int .i64 x) ∧ ((wr.setCell ⟨l + 1, i * 2, none⟩ (.int .i64 x)).setCell ⟨l + 1, i * 2 + 1, none⟩ (.int .i64 y)).cell? ⟨l + 1, i * 2 + 1, none⟩ = some (.int .i64 y) := by
  obtain ⟨F, hr, hF⟩ := h.row
  have h2 := (hr.set (i * 2) (.int .i64 x)).set (i * 2 + 1) (.int .i64 y)
  refine ⟨?_, ?_⟩
  · rw [h2.cell (by omega), if_neg (by omega), if_pos rfl]
  · rw [h2.cell (by omega), if_pos rfl]
theorem last (h : GInv w wr l n xs ys N D n) : FrsIn wr (some ⟨l + 1, 0, none⟩) (gets (fn xs) (fn ys) N D n) ∧ ∀ j, wr.frozen? ⟨l + 1, j, none⟩ = false := by
  obtain ⟨F, hr, hF⟩ := h.row
  refine ⟨⟨fun _ => ⟨l + 1, 0, rfl, hr.lt, fun j p hp => ?_⟩⟩, fun j => hr.frozen j⟩
  obtain ⟨hj, rfl⟩ := gets_back hp
  rw [Nat.zero_add, hr.cell (by omega), hr.cell (by omega), (hF j hj).1, (hF j hj).2]
  exact ⟨rfl, rfl⟩
end GInv

/-- What Gets answers. -/
def Got (w : World) (gs : List (Int × Int)) (E : Int) (e : Ending) (w' : World) : Prop := ∃ R c, e = .returned (.tuple #[.slice R gs.length c, .int .i64 E]) ∧ FrsIn w' R gs ∧ Below w.heap.size w w' ∧ (∀ k, Ab R k → w.heap.size ≤ k ∧ ∀ j, w'.frozen? ⟨k, j, none⟩ = false) ∧ gs.length ≤ c

set_option maxRecDepth 100000 in
set_option maxHeartbeats 4000000 in
theorem gets_bad {w : World} {A B : Option Addr} {xs ys : List Int} (hx : IntsIn w A xs) (hy : IntsIn w B ys) (cx cy : Nat) (all E : Int) (hE : wrongL all xs ys = E) (h12 : E = 1 ∨ E = 2) :
    Calls Try.prog 9 #[.int .i64 all, .slice A xs.length cx, .slice B ys.length cy] w (Got w [] E) := by
  have HL := Lib.hid (level_bad hx hy cx cy all E hE h12)
  have HZ : Hid (∀ W, Below w.heap.size w W → Got w [] E (.returned (.tuple #[.slice none 0 0, .int .i64 E])) W) := Lib.hid (fun W h => ⟨none, 0, rfl, FrsIn.nil _ _, h, (fun k hk => by obtain ⟨_, e, _⟩ := hk; cases e), Nat.le_refl _⟩)
  generalize Got w [] E = DD at *
  unfold Levelled at HL
  clear hx hy hE
  rcases h12 with rfl | rfl
  all_goals
    go_enter Try.func9, Try.ntmps9
    go_wp2_with fail
    refine HL.out.mono ?_
    rintro e w1 ⟨rfl, hb⟩
    have HX := Lib.hid (hb.trans ((laidF_at w1 0 0).2.1.mono hb.size))
    clear hb HL
    go_upto_region 2 with fail
    change Code.wp _ _ _ _ (laidF w1 0 0)
    generalize laidF w1 0 0 = m at *
    go_wp2_with fail
    exact HZ.out _ HX.out

set_option maxRecDepth 100000 in
set_option maxHeartbeats 16000000 in
theorem gets_ok {w : World} {A B : Option Addr} {xs ys : List Int} (hx : IntsIn w A xs) (hy : IntsIn w B ys) (cx cy : Nat) {all : Int} (hR : Right all xs ys) {N D : Int} (hL : Level all (fn xs) (fn ys) xs.length N D) :
    Calls Try.prog 9 #[.int .i64 all, .slice A xs.length cx, .slice B ys.length cy] w (Got w (gets (fn xs) (fn ys) N D xs.length) 0) := by
  have HL := Lib.hid (level_ok hx hy cx cy hR hL)
  have hbd := level_bounds hR hL
  obtain ⟨n, hn⟩ : ∃ n, xs.length = n := ⟨_, rfl⟩
  have hm : ys.length = n := by rw [hR.len, hn]
  have h16 : n ≤ 16 := by rw [← hn]; exact hR.few
  have HPX := Lib.hid (fun W (hW : Below w.heap.size w W) => hx.below hW)
  have HPY := Lib.hid (fun W (hW : Below w.heap.size w W) => hy.below hW)
  have hy0 : 0 < n → ∃ b off, B = some ⟨b, off, none⟩ ∧ b < w.heap.size := fun h => by
    obtain ⟨b, off, e, hl, _⟩ := hy.at_ (by omega)
    exact ⟨b, off, e, hl⟩
  have HOLD := Lib.hid hy0
  have HRT := Lib.hid hR
  have HN := Lib.hid (And.intro hn hm)
  have HMK := Lib.hid (fun w => make_frs n h16 w)
  unfold Levelled at HL
  rw [hn, hm] at HL ⊢
  have HZ : Hid (∀ W l, (FrsIn W (some ⟨l + 1, 0, none⟩) (gets (fn xs) (fn ys) N D n) ∧ ∀ j, W.frozen? ⟨l + 1, j, none⟩ = false) → Below w.heap.size w W → w.heap.size ≤ l → Got w (gets (fn xs) (fn ys) N D n) 0 (.returned (.tuple #[.slice (some ⟨l + 1, 0, none⟩) n n, .int .i64 0])) W) := Lib.hid (fun W l h1 h2 h3 => ⟨_, n, by rw [gets_length], h1.1, h2, fun k hk => by
    obtain ⟨a, e, rfl⟩ := hk
    injection e with e
    subst e
    exact ⟨by show w.heap.size ≤ l + 1; omega, h1.2⟩, by rw [gets_length]; exact Nat.le_refl _⟩)
  generalize hDD : Got w (gets (fn xs) (fn ys) N D n) 0 = DD at *
  clear hDD
  clear hx hy hR hL hn hm hy0
  go_enter Try.func9, Try.ntmps9
  go_wp2_with fail
  refine HL.out.mono ?_
  rintro e w1 ⟨rfl, hb⟩
  clear HL
  have HF := Lib.hid (And.intro (laidF_at w1 N D) (And.intro (hb.trans ((laidF_at w1 N D).2.1.mono hb.size)) hb.size))
  clear hb
  go_upto_region 2 with fail
  change Code.wp _ _ _ _ (laidF w1 N D)
  obtain ⟨l, hl⟩ : ∃ l, w1.heap.size = l := ⟨_, rfl⟩
  rw [hl] at HF ⊢
  clear hl
  generalize laidF w1 N D = m at *
  have hmk := HMK.out m
  go_upto_region 5 with fail
  have HI : Hid (GInv w (laidR m n) l n xs ys N D 0) := Lib.hid (by
    have bo : Below m.heap.size m (laidR m n) := (Below.refl _ _).alloc (Nat.le_refl _) _
    have hr := laidR_row m n
    rw [HF.out.1.2.2] at hr
    exact ⟨HF.out.2.1.trans (bo.mono HF.out.2.1.size), HF.out.2.2, HF.out.1.1.below bo, ⟨_, hr, fun j hj => absurd hj (by omega)⟩⟩)
  have hs := HF.out.1.2.2
  try rw [hs]
  clear hs hmk HF HMK
  generalize laidR m n = w3 at *
  go_wp2_with fail
  go_loopg [28] n (fun k c wr => ∃ i : Nat, c = .int .i64 (i : Int) ∧ i + k = n ∧ Hid (GInv w wr l n xs ys N D i))
  case atStart => exact ⟨0, rfl, by omega, HI⟩
  case round =>
    clear HI
    obtain ⟨i, rfl, hik, HI⟩ := hrel
    cases gk with
    | zero =>
      obtain rfl : i = n := by omega
      have HR := Lib.hid (HZ.out _ l HI.out.last HI.out.below HI.out.far)
      clear HI HZ HPX HPY HRT HN
      go_wp2_with fail
      exact HR.out
    | succ k =>
      have hi : i < n := by omega
      have i1 : (i : Int) < (n : Int) := by omega
      obtain ⟨gx, ox, a, rfl, ha, hca, hla⟩ := (HPX.out _ HI.out.below).next (i := i) (by rw [HN.out.1]; exact hi)
      obtain ⟨gy, oy, c, rfl, hc, hcc, hlc⟩ := (HPY.out _ HI.out.below).next (i := i) (by rw [HN.out.2]; exact hi)
      have hfa := fn_at ha
      have hfc := fn_at hc
      have hab := HRT.out.want0 i
      have hcb := HRT.out.weight0 i
      rw [hfa] at hab
      rw [hfc] at hcb
      have HSH := Lib.hid (fun W => short_any (a := a) (c := c) (n := N) (d := D) (by omega) (by omega) (by omega) hbd.2 W)
      have HC : Hid (∀ W, Below w.heap.size w W → W.cell? ⟨gy, oy + i, none⟩ = some (.int .i64 c)) := Lib.hid (fun W hW => by
        obtain ⟨b, off, e, hl⟩ := HOLD.out (by omega)
        injection e with e
        simp only [Addr.mk.injEq, and_true] at e
        obtain ⟨rfl, rfl⟩ := e
        exact (hW.cell (p := ⟨_, _, none⟩) hl).trans ((HI.out.below.cell (p := ⟨_, _, none⟩) hl).symm.trans hcc))
      have HG : Hid ((c * N < a * D → gN (fn xs) (fn ys) N D i = c * N ∧ gD (fn xs) (fn ys) N D i = D) ∧ (¬ c * N < a * D → gN (fn xs) (fn ys) N D i = a ∧ gD (fn xs) (fn ys) N D i = 1)) := Lib.hid (by
        have hw := g_way (fn xs) (fn ys) N D i
        rw [hfa, hfc] at hw
        refine ⟨fun h => ?_, fun h => ?_⟩
        · rcases hw with ⟨_, h2, h3⟩ | ⟨h1, _⟩
          · exact ⟨h2, h3⟩
          · omega
        · rcases hw with ⟨h1, _⟩ | ⟨_, h2, h3⟩
          · omega
          · exact ⟨h2, h3⟩)
      obtain ⟨P, q1, hP⟩ : ∃ P, IntKind.i64.wrap (c * N) = P ∧ P = c * N := ⟨_, rfl, mul_wrap (by omega) (by omega)⟩
      have HP := Lib.hid hP
      have HIK := Lib.hid hik
      obtain ⟨J, hJ⟩ : ∃ J, decide (c * N < a * D) = J := ⟨_, rfl⟩
      rw [hJ] at HSH
      have HJ := Lib.hid hJ
      have hseat := HI.out.seat hi
      obtain ⟨⟨⟨z0, c0⟩, z1, c1⟩, f0, f1⟩ := hseat
      have HX : Hid (GInv w ((wr.setCell ⟨l + 1, i * 2, none⟩ (.int .i64 a)).setCell ⟨l + 1, i * 2 + 1, none⟩ (.int .i64 1)) l n xs ys N D i) := Lib.hid (HI.out.put a 1)
      have HXC := Lib.hid (HI.out.put_cells hi a 1)
      clear hJ hfa hfc hab hcb ha hc hla hlc hcc HI hP hik HN HPX HPY HRT HOLD HZ
      go_upto_region 9 with fail
      clear c0 c1 f0 f1 hca
      generalize (wr.setCell ⟨l + 1, i * 2, none⟩ (.int .i64 a)).setCell ⟨l + 1, i * 2 + 1, none⟩ (.int .i64 1) = w4 at *
      have HS : Hid (∀ W, Below w4.heap.size w4 W → (fun W : World => W.cell? ⟨gy, oy + i, none⟩ = some (.int .i64 c) ∧ W.cell? ⟨l, 0, none⟩ = some (.int .i64 N) ∧ W.cell? ⟨l, 1, none⟩ = some (.int .i64 D)) W) := Lib.hid (fun W hW => ⟨HC.out _ (HX.out.later hW).below, (HX.out.later hW).lev.cells⟩)
      refine wp_region_held_drew (S := (fun W : World => W.cell? ⟨gy, oy + i, none⟩ = some (.int .i64 c) ∧ W.cell? ⟨l, 0, none⟩ = some (.int .i64 N) ∧ W.cell? ⟨l, 1, none⟩ = some (.int .i64 D))) (by kernel_rfl) (HS.out _ (Below.refl _ _).drew) (fun hHeld => ?_)
      obtain ⟨w0, hw0⟩ : ∃ W0, W0 = w4.drew := ⟨_, rfl⟩
      have HB0 : Hid (Below w4.heap.size w4 w0) := Lib.hid (by rw [hw0]; exact (Below.refl _ _).drew)
      rw [← hw0] at hHeld ⊢
      clear hw0
      refine wpAnyH_take (i := 0) (v := ?_) (by simp only [List.getElem?_toArray, List.getElem?_cons_zero] <;> rfl) (by kernel_rfl) (by kernel_rfl) (by kernel_rfl) (by exact fun _ _ _ h => h) (Or.inl ⟨by rfl, ?_⟩) hHeld ?_
      rotate_left
      · intro w hSw; (try dsimp only at hSw); go_simp; (try with_reducible rfl)
      (try simp only [Act.put, List.setIfInBounds_toArray, List.set_cons_zero, List.set_cons_succ])
      refine wpAnyH_take (i := 1) (v := ?_) (by simp only [List.getElem?_toArray, List.getElem?_cons_succ, List.getElem?_cons_zero] <;> rfl) (by kernel_rfl) (by kernel_rfl) (by kernel_rfl) (by exact fun _ _ _ h => h) (Or.inl ⟨by rfl, ?_⟩) hHeld ?_
      rotate_left
      · intro w hSw; (try dsimp only at hSw); go_simp; (try with_reducible rfl)
      (try simp only [Act.put, List.setIfInBounds_toArray, List.set_cons_zero, List.set_cons_succ])
      refine wpAnyH_take (i := 2) (v := ?_) (by simp only [List.getElem?_toArray, List.getElem?_cons_succ, List.getElem?_cons_zero] <;> rfl) (by kernel_rfl) (by kernel_rfl) (by kernel_rfl) (by exact fun _ _ _ h => h) (Or.inl ⟨by rfl, ?_⟩) hHeld ?_
      rotate_left
      · intro w hSw; (try dsimp only at hSw); go_simp; (try with_reducible rfl)
      (try simp only [Act.put, List.setIfInBounds_toArray, List.set_cons_zero, List.set_cons_succ])
      refine wpAnyH_take (i := 3) (v := ?_) (by simp only [List.getElem?_toArray, List.getElem?_cons_succ, List.getElem?_cons_zero] <;> rfl) (by kernel_rfl) (by kernel_rfl) (by kernel_rfl) (by exact fun _ _ _ h => h) (Or.inl ⟨by rfl, ?_⟩) hHeld ?_
      rotate_left
      · intro w hSw; (try dsimp only at hSw); go_simp; (try with_reducible rfl)
      (try simp only [Act.put, List.setIfInBounds_toArray, List.set_cons_zero, List.set_cons_succ])
      refine wpAnyH_take (i := 4) (v := ?_) (by simp only [List.getElem?_toArray, List.getElem?_cons_succ, List.getElem?_cons_zero] <;> rfl) (by kernel_rfl) (by kernel_rfl) (by kernel_rfl) (by exact fun _ _ _ h => h) (Or.inl ⟨by rfl, ?_⟩) hHeld ?_
      rotate_left
      · intro w hSw; (try dsimp only at hSw); go_simp; (try with_reducible rfl)
      (try simp only [Act.put, List.setIfInBounds_toArray, List.set_cons_zero, List.set_cons_succ])
      refine wpAnyH_take (i := 5) (v := ?_) (by simp only [List.getElem?_toArray, List.getElem?_cons_succ, List.getElem?_cons_zero] <;> rfl) (by kernel_rfl) (by kernel_rfl) (by kernel_rfl) (by exact fun _ _ _ h => h) (Or.inl ⟨by rfl, ?_⟩) hHeld ?_
      rotate_left
      · intro w hSw; (try dsimp only at hSw); go_simp; (try with_reducible rfl)
      (try simp only [Act.put, List.setIfInBounds_toArray, List.set_cons_zero, List.set_cons_succ])
      refine wpAnyH_ready (rs := [6]) (by kernel_rfl) (by simp) ?_
      refine AllReadyH.cons (by simp only [List.getElem?_toArray, List.getElem?_cons_succ, List.getElem?_cons_zero] <;> rfl) (fun K hK => ?_) AllReadyH.nil
      go_simp
      go_at_call 21
      refine (HSH.out _).mono ?_
      rintro e w1 ⟨rfl, hb1⟩
      have HB1 := Lib.hid (HB0.out.trans (hb1.mono HB0.out.size))
      clear hb1
      go_wp2_with fail
      refine hK.out _ _ ?_ (fun hHeld => ?_)
      · exact HS.out _ HB1.out
      clear hK K
      (try simp only [Act.put, List.setIfInBounds_toArray, List.set_cons_zero, List.set_cons_succ])
      refine wpAnyH_done (by kernel_rfl) ?_ _
      have HX1 := Lib.hid (HX.out.later HB1.out)
      have HXC1 : Hid (w1.cell? ⟨l + 1, i * 2, none⟩ = some (.int .i64 a) ∧ w1.cell? ⟨l + 1, i * 2 + 1, none⟩ = some (.int .i64 1)) := Lib.hid (by
        obtain ⟨F, hr, _⟩ := HX.out.row
        exact ⟨(HB1.out.cell (p := ⟨_, _, none⟩) hr.lt).trans HXC.out.1, (HB1.out.cell (p := ⟨_, _, none⟩) hr.lt).trans HXC.out.2⟩)
      clear HX HXC HS HB0 HB1 hHeld HSH
      have HX := HX1
      have HXC := HXC1
      clear HX1 HXC1
      cases J with
      | false =>
        have HG2 := Lib.hid (HG.out.2 (by have := of_decide_eq_false HJ.out; omega))
        have HQ := Lib.hid (HX.out.done hi HXC.out.1 HXC.out.2 HG2.out.1.symm HG2.out.2.symm)
        clear HX HXC HG HG2 HC HJ HP
        go_wp2_with fail
        go_roundg k
        case measure => omega
        case rel => exact ⟨i + 1, by go_num, by have := HIK.out; omega, HQ⟩
      | true =>
        have HG2 := Lib.hid (HG.out.1 (of_decide_eq_true HJ.out))
        clear HG HJ HXC
        go_upto_region 10 with fail
        have HS : Hid (∀ W, Below w1.heap.size w1 W → (fun W : World => W.cell? ⟨gy, oy + i, none⟩ = some (.int .i64 c) ∧ W.cell? ⟨l, 0, none⟩ = some (.int .i64 N) ∧ W.cell? ⟨l, 1, none⟩ = some (.int .i64 D)) W) := Lib.hid (fun W hW => ⟨HC.out _ (HX.out.later hW).below, (HX.out.later hW).lev.cells⟩)
        refine wp_region_held_drew (S := (fun W : World => W.cell? ⟨gy, oy + i, none⟩ = some (.int .i64 c) ∧ W.cell? ⟨l, 0, none⟩ = some (.int .i64 N) ∧ W.cell? ⟨l, 1, none⟩ = some (.int .i64 D))) (by kernel_rfl) (HS.out _ (Below.refl _ _).drew) (fun hHeld => ?_)
        obtain ⟨w0, hw0⟩ : ∃ W0, W0 = w1.drew := ⟨_, rfl⟩
        have HB0 : Hid (Below w1.heap.size w1 w0) := Lib.hid (by rw [hw0]; exact (Below.refl _ _).drew)
        rw [← hw0] at hHeld ⊢
        clear hw0
        refine wpAnyH_take (i := 0) (v := ?_) (by simp only [List.getElem?_toArray, List.getElem?_cons_zero] <;> rfl) (by kernel_rfl) (by kernel_rfl) (by kernel_rfl) (by exact fun _ _ _ h => h) (Or.inl ⟨by rfl, ?_⟩) hHeld ?_
        rotate_left
        · intro w hSw; (try dsimp only at hSw); go_simp; (try with_reducible rfl)
        (try simp only [Act.put, List.setIfInBounds_toArray, List.set_cons_zero, List.set_cons_succ])
        refine wpAnyH_take (i := 1) (v := ?_) (by simp only [List.getElem?_toArray, List.getElem?_cons_succ, List.getElem?_cons_zero] <;> rfl) (by kernel_rfl) (by kernel_rfl) (by kernel_rfl) (by exact fun _ _ _ h => h) (Or.inl ⟨by rfl, ?_⟩) hHeld ?_
        rotate_left
        · intro w hSw; (try dsimp only at hSw); go_simp; (try with_reducible rfl)
        (try simp only [Act.put, List.setIfInBounds_toArray, List.set_cons_zero, List.set_cons_succ])
        refine wpAnyH_take (i := 2) (v := ?_) (by simp only [List.getElem?_toArray, List.getElem?_cons_succ, List.getElem?_cons_zero] <;> rfl) (by kernel_rfl) (by kernel_rfl) (by kernel_rfl) (by exact fun _ _ _ h => h) (Or.inl ⟨by rfl, ?_⟩) hHeld ?_
        rotate_left
        · intro w hSw; (try dsimp only at hSw); go_simp; (try with_reducible rfl)
        (try simp only [Act.put, List.setIfInBounds_toArray, List.set_cons_zero, List.set_cons_succ])
        refine wpAnyH_take (i := 3) (v := ?_) (by simp only [List.getElem?_toArray, List.getElem?_cons_succ, List.getElem?_cons_zero] <;> rfl) (by kernel_rfl) (by kernel_rfl) (by kernel_rfl) (by exact fun _ _ _ h => h) (Or.inl ⟨by rfl, ?_⟩) hHeld ?_
        rotate_left
        · intro w hSw; (try dsimp only at hSw); go_simp; (try with_reducible rfl)
        (try simp only [Act.put, List.setIfInBounds_toArray, List.set_cons_zero, List.set_cons_succ])
        refine wpAnyH_take (i := 4) (v := ?_) (by simp only [List.getElem?_toArray, List.getElem?_cons_succ, List.getElem?_cons_zero] <;> rfl) (by kernel_rfl) (by kernel_rfl) (by kernel_rfl) (by exact fun _ _ _ h => h) (Or.inl ⟨by rfl, ?_⟩) hHeld ?_
        rotate_left
        · intro w hSw; (try dsimp only at hSw); go_simp; (try with_reducible rfl)
        (try simp only [Act.put, List.setIfInBounds_toArray, List.set_cons_zero, List.set_cons_succ])
        refine wpAnyH_take (i := 5) (v := ?_) (by simp only [List.getElem?_toArray, List.getElem?_cons_succ, List.getElem?_cons_zero] <;> rfl) (by kernel_rfl) (by kernel_rfl) (by kernel_rfl) (by exact fun _ _ _ h => h) (Or.inl ⟨by rfl, ?_⟩) hHeld ?_
        rotate_left
        · intro w hSw; (try dsimp only at hSw); go_simp; (try with_reducible rfl)
        (try simp only [Act.put, List.setIfInBounds_toArray, List.set_cons_zero, List.set_cons_succ])
        refine wpAnyH_take (i := 6) (v := ?_) (by simp only [List.getElem?_toArray, List.getElem?_cons_succ, List.getElem?_cons_zero] <;> rfl) (by kernel_rfl) (by kernel_rfl) (by kernel_rfl) (by exact fun _ _ _ h => h) (Or.inl ⟨by rfl, ?_⟩) hHeld ?_
        rotate_left
        · intro w hSw; (try dsimp only at hSw); go_simp; (try with_reducible rfl)
        (try simp only [Act.put, List.setIfInBounds_toArray, List.set_cons_zero, List.set_cons_succ])
        refine wpAnyH_take (i := 7) (v := ?_) (by simp only [List.getElem?_toArray, List.getElem?_cons_succ, List.getElem?_cons_zero] <;> rfl) (by kernel_rfl) (by kernel_rfl) (by kernel_rfl) (by exact fun _ _ _ h => h) (Or.inl ⟨by rfl, ?_⟩) hHeld ?_
        rotate_left
        · intro w hSw; (try dsimp only at hSw); go_simp; (try with_reducible rfl)
        (try simp only [Act.put, List.setIfInBounds_toArray, List.set_cons_zero, List.set_cons_succ])
        refine wpAnyH_take (i := 8) (v := ?_) (by simp only [List.getElem?_toArray, List.getElem?_cons_succ, List.getElem?_cons_zero] <;> rfl) (by kernel_rfl) (by kernel_rfl) (by kernel_rfl) (by exact fun _ _ _ h => h) (Or.inl ⟨by rfl, ?_⟩) hHeld ?_
        rotate_left
        · intro w hSw; (try dsimp only at hSw); go_simp; (try with_reducible rfl)
        (try simp only [Act.put, List.setIfInBounds_toArray, List.set_cons_zero, List.set_cons_succ])
        refine wpAnyH_take (i := 9) (v := ?_) (by simp only [List.getElem?_toArray, List.getElem?_cons_succ, List.getElem?_cons_zero] <;> rfl) (by kernel_rfl) (by kernel_rfl) (by kernel_rfl) (by exact fun _ _ _ h => h) (Or.inl ⟨by rfl, ?_⟩) hHeld ?_
        rotate_left
        · intro w hSw; (try dsimp only at hSw); go_simp; (try with_reducible rfl)
        (try simp only [Act.put, List.setIfInBounds_toArray, List.set_cons_zero, List.set_cons_succ])
        refine wpAnyH_take (i := 10) (v := ?_) (by simp only [List.getElem?_toArray, List.getElem?_cons_succ, List.getElem?_cons_zero] <;> rfl) (by kernel_rfl) (by kernel_rfl) (by kernel_rfl) (by exact fun _ _ _ h => h) (Or.inl ⟨by rfl, ?_⟩) hHeld ?_
        rotate_left
        · intro w hSw; (try dsimp only at hSw); go_simp; (try with_reducible rfl)
        (try simp only [Act.put, List.setIfInBounds_toArray, List.set_cons_zero, List.set_cons_succ])
        refine wpAnyH_take (i := 11) (v := ?_) (by simp only [List.getElem?_toArray, List.getElem?_cons_succ, List.getElem?_cons_zero] <;> rfl) (by kernel_rfl) (by kernel_rfl) (by kernel_rfl) (by exact fun _ _ _ h => h) (Or.inl ⟨by rfl, ?_⟩) hHeld ?_
        rotate_left
        · intro w hSw; (try dsimp only at hSw); go_simp; (try with_reducible rfl)
        (try simp only [Act.put, List.setIfInBounds_toArray, List.set_cons_zero, List.set_cons_succ])
        refine wpAnyH_take (i := 12) (v := ?_) (by simp only [List.getElem?_toArray, List.getElem?_cons_succ, List.getElem?_cons_zero] <;> rfl) (by kernel_rfl) (by kernel_rfl) (by kernel_rfl) (by exact fun _ _ _ h => h) (Or.inl ⟨by rfl, ?_⟩) hHeld ?_
        rotate_left
        · intro w hSw; (try dsimp only at hSw); go_simp; (try with_reducible rfl)
        (try simp only [Act.put, List.setIfInBounds_toArray, List.set_cons_zero, List.set_cons_succ])
        refine wpAnyH_ready (rs := [13]) (by kernel_rfl) (by simp) ?_
        refine AllReadyH.cons (by simp only [List.getElem?_toArray, List.getElem?_cons_succ, List.getElem?_cons_zero] <;> rfl) (fun K hK => ?_) AllReadyH.nil
        have HX2 := Lib.hid (HX.out.later HB0.out)
        clear HX
        obtain ⟨⟨⟨z0, c0⟩, z1, c1⟩, f0, f1⟩ := HX2.out.seat hi
        go_simp
        have HX := Lib.hid (And.intro (HX2.out.put P D) (HX2.out.put_cells hi P D))
        refine hK.out _ _ ?_ (fun hHeld => ?_)
        · exact ⟨HC.out _ HX.out.1.below, HX.out.1.lev.cells⟩
        clear hK K c0 c1 f0 f1 HX2
        (try simp only [Act.put, List.setIfInBounds_toArray, List.set_cons_zero, List.set_cons_succ])
        refine wpAnyH_done (by kernel_rfl) ?_ _
        have HQ := Lib.hid (HX.out.1.done hi HX.out.2.1 HX.out.2.2 (by rw [HP.out]; exact HG2.out.1.symm) HG2.out.2.symm)
        clear HX HG2 HC HP hHeld HS HB0
        generalize (w0.setCell ⟨l + 1, i * 2, none⟩ (.int .i64 P)).setCell ⟨l + 1, i * 2 + 1, none⟩ (.int .i64 D) = w5 at *
        go_wp2_with fail
        go_roundg k
        case measure => omega
        case rel => exact ⟨i + 1, by go_num, by have := HIK.out; omega, HQ⟩
end Go.Proofs.Ytlpchakoikmbnaa
