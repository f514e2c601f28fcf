/- The reference for package share: LLevel. -/
import Derived.Test.YtlpchakoikmbnaaShLike
namespace Go.Proofs.Ytlpchakoikmbnaa
open Go.RowKit Go.Maps

/-- The result's block, and who is left, in the first two blocks behind w. -/
structure LlI (w wr : World) (n : Nat) (s : Nat → Bool) : Prop where
  below : Below w.heap.size w wr
  res : FrAt wr w.heap.size 0 0
  row : ∃ f, wr.rowIs (w.heap.size + 1) 4 n f ∧ ∀ j, j < n → f j = .bool (s j)
namespace LlI
variable {w wr W : World} {n : Nat} {s : Nat → Bool}
theorem later (h : LlI w wr n s) (hb : Below wr.heap.size wr W) : LlI w W n s := by
  obtain ⟨f, hr, hf⟩ := h.row
  exact ⟨h.below.trans (hb.mono h.below.size), h.res.below hb, ⟨f, hr.of_block (hb.block _ hr.lt), hf⟩⟩
theorem seat (h : LlI w wr n s) {j : Nat} (hj : j < n) : wr.cell? ⟨w.heap.size + 1, j, none⟩ = some (.bool (s j)) ∧ wr.frozen? ⟨w.heap.size + 1, j, none⟩ = false := by
  obtain ⟨f, hr, hf⟩ := h.row
  exact ⟨by rw [hr.cell hj, hf j hj], hr.frozen _⟩
theorem put (h : LlI w wr n s) (i : Nat) (b : Bool) : LlI w (wr.setCell ⟨w.heap.size + 1, i, none⟩ (.bool b)) n (fun j => if j = i then b else s j) := by
  obtain ⟨f, hr, hf⟩ := h.row
  refine ⟨h.below.setCell (p := ⟨w.heap.size + 1, i, none⟩) (by show w.heap.size ≤ w.heap.size + 1; omega) _, h.res.other (by show w.heap.size ≠ w.heap.size + 1; omega) _, ⟨_, hr.set i (.bool b), fun j hj => ?_⟩⟩
  by_cases e : j = i
  · rw [if_pos e, if_pos e]
  · rw [if_neg e, if_neg e]
    exact hf j hj
theorem congr (h : LlI w wr n s) {t : Nat → Bool} (e : ∀ j, j < n → s j = t j) : LlI w wr n t := by
  obtain ⟨f, hr, hf⟩ := h.row
  exact ⟨h.below, h.res, ⟨f, hr, fun j hj => by rw [hf j hj, e j hj]⟩⟩
theorem ended (h : LlI w wr n s) (m e : Int) : FrAt (wr.setRow w.heap.size #[.int .i64 m, .int .i64 e]) w.heap.size m e ∧ LlI w (wr.setRow w.heap.size #[.int .i64 0, .int .i64 0]) n s ∧ Below w.heap.size w (wr.setRow w.heap.size #[.int .i64 m, .int .i64 e]) ∧ ∃ f, (wr.setRow w.heap.size #[.int .i64 m, .int .i64 e]).rowIs (w.heap.size + 1) 4 n f ∧ ∀ j, j < n → f j = .bool (s j) := by
  obtain ⟨f, hr, hf⟩ := h.row
  exact ⟨h.res.stored m e, ⟨below_setRow h.below (Nat.le_refl _) _, h.res.stored 0 0, ⟨f, hr.of_block (setRow_other wr w.heap.size (w.heap.size + 1) _ (by omega)), hf⟩⟩, below_setRow h.below (Nat.le_refl _) _, ⟨f, hr.of_block (setRow_other wr w.heap.size (w.heap.size + 1) _ (by omega)), hf⟩⟩
end LlI
/-- .. and the level of this round, in block g. -/
structure LkI (w wr : World) (n : Nat) (s : Nat → Bool) (g : Nat) (N D : Int) : Prop where
  base : LlI w wr n s
  lev : FrAt wr g N D
  far : w.heap.size + 1 < g
namespace LkI
variable {w wr W : World} {n : Nat} {s : Nat → Bool} {g : Nat} {N D : Int}
theorem later (h : LkI w wr n s g N D) (hb : Below wr.heap.size wr W) : LkI w W n s g N D := ⟨h.base.later hb, h.lev.below hb, h.far⟩
theorem field (h : LkI w wr n s g N D) (i : Nat) (v : Value) : LlI w (wr.setCell ⟨g, i, none⟩ v) n s := by
  have hf := h.far
  obtain ⟨f, hr, hff⟩ := h.base.row
  exact ⟨h.base.below.setCell (p := ⟨g, i, none⟩) (by show w.heap.size ≤ g; omega) _, h.base.res.other (by show w.heap.size ≠ g; omega) _, ⟨f, hr.setOther (by show w.heap.size + 1 ≠ g; omega) _, hff⟩⟩
theorem num (h : LkI w wr n s g N D) (x : Int) : LkI w (wr.setCell ⟨g, 0, none⟩ (.int .i64 x)) n s g x D := ⟨h.field 0 _, h.lev.num x, h.far⟩
theorem den (h : LkI w wr n s g N D) (x : Int) : LkI w (wr.setCell ⟨g, 1, none⟩ (.int .i64 x)) n s g N x := ⟨h.field 1 _, h.lev.den x, h.far⟩
theorem put (h : LkI w wr n s g N D) (i : Nat) (b : Bool) : LkI w (wr.setCell ⟨w.heap.size + 1, i, none⟩ (.bool b)) n (fun j => if j = i then b else s j) g N D := ⟨h.base.put i b, h.lev.other (by have := h.far; show g ≠ w.heap.size + 1; omega) _, h.far⟩
theorem congr (h : LkI w wr n s g N D) {t : Nat → Bool} (e : ∀ j, j < n → s j = t j) : LkI w wr n t g N D := ⟨h.base.congr e, h.lev, h.far⟩
end LkI
/-- Who of the first i is taken out. -/
def midS (A : Int) (w v : Nat → Int) (n : Nat) (s : Nat → Bool) (i k : Nat) : Bool := if k < i then nextS A w v n s k else s k
/-- Is anybody of the first i taken out? -/
def anyS (A : Int) (w v : Nat → Int) (n : Nat) (s : Nat → Bool) (i : Nat) : Bool := (List.range i).any fun k => s k && !isS w v (A - kS w s n) (dS v s n) k
theorem anyS_succ (A : Int) (w v : Nat → Int) (n : Nat) (s : Nat → Bool) (i : Nat) : anyS A w v n s (i + 1) = (anyS A w v n s i || (s i && !isS w v (A - kS w s n) (dS v s n) i)) := by
  unfold anyS
  rw [List.range_succ, List.any_append]
  simp
theorem anyS_true {A : Int} {w v : Nat → Int} {n : Nat} {s : Nat → Bool} {i : Nat} (h : anyS A w v n s i = true) : ∃ k, k < i ∧ s k = true ∧ isS w v (A - kS w s n) (dS v s n) k = false := by
  unfold anyS at h
  rw [List.any_eq_true] at h
  obtain ⟨k, hk, h⟩ := h
  rw [Bool.and_eq_true, Bool.not_eq_true'] at h
  exact ⟨k, List.mem_range.1 hk, h⟩
theorem anyS_false {A : Int} {w v : Nat → Int} {n : Nat} {s : Nat → Bool} {i : Nat} (h : anyS A w v n s i = false) : ∀ k, k < i → s k = true → isS w v (A - kS w s n) (dS v s n) k = true := fun k hk hs => by
  cases hi : isS w v (A - kS w s n) (dS v s n) k with
  | true => rfl
  | false =>
    unfold anyS at h
    rw [List.any_eq_false] at h
    have := h k (List.mem_range.2 hk)
    rw [hs, hi] at this
    exact absurd rfl this
theorem midS_next {A : Int} {w v : Nat → Int} {n : Nat} {s : Nat → Bool} {i : Nat} (b : Bool) (hb : b = nextS A w v n s i) (j : Nat) : (if j = i then b else midS A w v n s i j) = midS A w v n s (i + 1) j := by
  unfold midS
  by_cases e : j = i
  · rw [if_pos e, if_pos (by omega), hb, e]
  · rw [if_neg e]
    by_cases c : j < i
    · rw [if_pos c, if_pos (by omega)]
    · rw [if_neg c, if_neg (by omega)]
theorem midS_same {A : Int} {w v : Nat → Int} {n : Nat} {s : Nat → Bool} {i : Nat} (h : s i = nextS A w v n s i) (j : Nat) : midS A w v n s i j = midS A w v n s (i + 1) j := by
  rw [← midS_next (s i) h]
  unfold midS
  by_cases e : j = i
  · subst e
    rw [if_neg (by omega), if_pos rfl]
  · rw [if_neg e]
/-- What LLevel answers. -/
def LL (w : World) (n : Nat) (N D : Int) (s : Nat → Bool) (e : Ending) (w' : World) : Prop :=
  ∃ g, e = .returned (.tuple #[.agg #[.int .i64 N, .int .i64 D], .slice (some ⟨g, 0, none⟩) n n]) ∧ (∃ f, w'.rowIs g 4 n f ∧ ∀ j, j < n → f j = .bool (s j)) ∧ Below w.heap.size w w' ∧ w.heap.size ≤ g

set_option maxRecDepth 100000 in
set_option maxHeartbeats 32000000 in
theorem llevel_any {w : World} {P Q : Option Addr} {xs ys : List Int} (hx : IntsIn w P xs) (hy : IntsIn w Q ys) (cx cy : Nat) {all : Int} (hR : Right all xs ys) {N D : Int} (hL : Level all (fn xs) (fn ys) xs.length N D) :
    Calls Try.prog 12 #[.int .i64 all, .slice P xs.length cx, .slice Q ys.length cy] w (LL w xs.length N D (isS (fn xs) (fn ys) N D)) := by
  have HX0 := Lib.hid (laidF_at w 0 0)
  obtain ⟨n, hn⟩ : ∃ n, xs.length = n := ⟨_, rfl⟩
  have hm : ys.length = n := by rw [hR.len, hn]
  have h16 : n ≤ 16 := by rw [← hn]; exact hR.few
  have hv : ∀ k, k < n → 1 ≤ fn ys k := fun k hk => (hR.weight (by omega)).1
  have HPX := Lib.hid (fun W (hW : Below w.heap.size w W) => hx.below hW)
  have HPY := Lib.hid (fun W (hW : Below w.heap.size w W) => hy.below hW)
  have hx0 : 0 < n → ∃ b off, P = some ⟨b, off, none⟩ ∧ b < w.heap.size := fun h => by
    obtain ⟨b, off, e, hl, _⟩ := hx.at_ (by omega)
    exact ⟨b, off, e, hl⟩
  have hy0 : 0 < n → ∃ b off, Q = some ⟨b, off, none⟩ ∧ b < w.heap.size := fun h => by
    obtain ⟨b, off, e, hl, _⟩ := hy.at_ (by omega)
    exact ⟨b, off, e, hl⟩
  have HOLD := Lib.hid (And.intro hx0 hy0)
  have HL := Lib.hid (fun N' D' (h : Level all (fn xs) (fn ys) n N' D') => (hn ▸ hL).unique h hv)
  have HV := Lib.hid hv
  have HRT := Lib.hid hR
  have HN := Lib.hid (And.intro hn hm)
  have hmk := run_make_row' (P := Try.prog) 32 4 (.bool false) 1 Try.underlying32 (by kernel_rfl) rfl .i64 .i64 n (by omega) (by omega)
  rw [hn, hm]
  have HZ : Hid (∀ (W : World) (s : Nat → Bool), (∃ f, W.rowIs (w.heap.size + 1) 4 n f ∧ ∀ j, j < n → f j = .bool (s j)) → (∀ j, j < n → s j = isS (fn xs) (fn ys) N D j) → Below w.heap.size w W → LL w n N D (isS (fn xs) (fn ys) N D) (.returned (.tuple #[.agg #[.int .i64 N, .int .i64 D], .slice (some ⟨w.heap.size + 1, 0, none⟩) n n])) W) := Lib.hid (fun W s h hs hb => by
    obtain ⟨f, hr, hf⟩ := h
    exact ⟨_, rfl, ⟨f, hr, fun j hj => by rw [hf j hj, hs j hj]⟩, hb, by omega⟩)
  generalize LL w n N D (isS (fn xs) (fn ys) N D) = DD at *
  clear hx hy hR hL hn hm hx0 hy0 hv
  go_enter Try.func12, Try.ntmps12
  go_upto_region 1 with fail
  change Code.wp _ _ _ _ (laidF w 0 0)
  generalize laidF w 0 0 = m at *
  go_upto_region 2 with fail
  have HI : Hid (LlI w (m.alloc (.cells (madeCells #[.bool false] n) 4)) n (fun j => decide (j < 0))) := Lib.hid (by
    have bo : Below m.heap.size m (m.alloc (.cells (madeCells #[.bool false] n) 4)) := (Below.refl _ _).alloc (Nat.le_refl _) _
    have hr := World.rowIs_made m (.bool false) n 4
    rw [HX0.out.2.2] at hr
    exact ⟨HX0.out.2.1.trans (bo.mono HX0.out.2.1.size), HX0.out.1.below bo, ⟨_, hr, fun j hj => by simp⟩⟩)
  have hsz := HX0.out.2.2
  try rw [hsz]
  clear hmk HX0 hsz
  generalize m.alloc (.cells (madeCells #[.bool false] n) 4) = w3 at *
  go_wp2_with fail
  go_loopg [21] n (fun z c wr => ∃ i : Nat, c = .int .i64 (i : Int) ∧ i + z = n ∧ Hid (LlI w wr n (fun j => decide (j < i))))
  case atStart => exact ⟨0, rfl, by omega, HI⟩
  case round =>
    clear HI
    obtain ⟨i, rfl, hik, HI⟩ := hrel
    cases gk with
    | succ k =>
      have hi : i < n := by omega
      have i1 : (i : Int) < (n : Int) := by omega
      obtain ⟨c0, c1⟩ := HI.out.seat hi
      have HJ : Hid (LlI w (wr.setCell ⟨w.heap.size + 1, i, none⟩ (.bool true)) n (fun j => decide (j < i + 1))) := Lib.hid ((HI.out.put i true).congr (fun j hj => by
        by_cases e : j = i
        · rw [if_pos e]; exact (decide_eq_true (by omega)).symm
        · rw [if_neg e]
          by_cases c : j < i
          · rw [decide_eq_true c, decide_eq_true (by omega)]
          · rw [decide_eq_false c, decide_eq_false (by omega)]))
      clear HI
      go_wp2_with fail
      go_roundg k
      case measure => omega
      case rel => exact ⟨i + 1, by go_num, by omega, HJ⟩
    | zero =>
      obtain rfl : i = n := by omega
      have HS : Hid (Left all (fn xs) (fn ys) i (fun j => decide (j < i))) := Lib.hid (Left.start HRT.out.all.1 HV.out (fun k hk => decide_eq_true hk))
      go_wp2_with fail
      go_loopg [32, 62, 13] (i + 1) (fun z a b c wr' => ∃ s : Nat → Bool, cS s i < z ∧ Hid (LlI w wr' i s ∧ Left all (fn xs) (fn ys) i s))
      case atStart =>
        refine ⟨_, ?_, Lib.hid ⟨HI.out, HS.out⟩⟩
        unfold cS
        have := List.length_filter_le (fun j => decide (j < i)) (List.range i)
        rw [List.length_range] at this
        omega
      case round =>
        clear HI HS
        obtain ⟨s, hcs, HI⟩ := hrel
        cases gk with
        | zero => omega
        | succ z =>
          have hrl : w.heap.size + 1 < wr.heap.size := by
            obtain ⟨f, hr, _⟩ := HI.out.1.row
            exact hr.lt
          have HK : Hid (LkI w (laidF wr all 0) i s wr.heap.size all 0) := Lib.hid (by
            have hF := laidF_at wr all 0
            exact ⟨HI.out.1.later hF.2.1, hF.1, hrl⟩)
          have HLF := Lib.hid HI.out.2
          have HCS := Lib.hid hcs
          clear hrl hcs HI
          go_upto_region 8 with fail
          change Code.wp _ _ _ _ (laidF wr all 0)
          generalize laidF wr all 0 = w4 at *
          generalize wr.heap.size = g at *
          go_wp2_with fail
          go_loopg [32] i (fun z3 c wr2 => ∃ (j : Nat) (N0 D0 : Int), c = .int .i64 (j : Int) ∧ j + z3 = i ∧ Hid (LkI w wr2 i s g N0 D0 ∧ N0 = all - kS (fn xs) s j ∧ D0 = dS (fn ys) s j))
          case atStart => exact ⟨0, all, 0, rfl, by omega, Lib.hid ⟨HK.out, by unfold kS; rw [su_zero, Int.sub_zero], rfl⟩⟩
          case round =>
            clear HK
            obtain ⟨j, N0, D0, rfl, hjk, HI⟩ := hrel
            have hd0 : 0 ≤ dS (fn ys) s j := su_nonneg fun k _ => by have := HRT.out.weight0 k; split <;> omega
            have hd1 : dS (fn ys) s j ≤ 1000 * (j : Int) := su_bound fun k _ => by have := HRT.out.weight0 k; split <;> omega
            have hk0 : 0 ≤ kS (fn xs) s j := su_nonneg fun k _ => by have := HRT.out.want0 k; split <;> omega
            have hk1 : kS (fn xs) s j ≤ 1048576 * (j : Int) := su_bound fun k _ => by have := HRT.out.want0 k; split <;> omega
            have hall := HRT.out.all
            have hN0 := HI.out.2.1
            have hD0 := HI.out.2.2
            rw [← hD0] at hd0 hd1
            generalize hkS : kS (fn xs) s j = KK at *
            cases gk with
            | succ z3 =>
              have hj : j < i := by omega
              have j1 : (j : Int) < (i : Int) := by omega
              obtain ⟨gx, ox, rfl, a1, -⟩ := (HPX.out _ HI.out.1.base.below).two (i := j) (j := j) (by rw [HN.out.1]; exact hj) (by rw [HN.out.1]; exact hj)
              obtain ⟨gy, oy, rfl, b1, -⟩ := (HPY.out _ HI.out.1.base.below).two (i := j) (j := j) (by rw [HN.out.2]; exact hj) (by rw [HN.out.2]; exact hj)
              have HCX : Hid (∀ W, Below w.heap.size w W → W.cell? ⟨gx, ox + j, none⟩ = some (.int .i64 (fn xs j))) := Lib.hid (fun W hW => by
                obtain ⟨b, off, e, hl⟩ := HOLD.out.1 (by omega)
                injection e with e
                simp only [Addr.mk.injEq, and_true] at e
                obtain ⟨rfl, rfl⟩ := e
                exact (hW.cell (p := ⟨_, _, none⟩) hl).trans ((HI.out.1.base.below.cell (p := ⟨_, _, none⟩) hl).symm.trans a1))
              have HCY : Hid (∀ W, Below w.heap.size w W → W.cell? ⟨gy, oy + j, none⟩ = some (.int .i64 (fn ys j))) := Lib.hid (fun W hW => by
                obtain ⟨b, off, e, hl⟩ := HOLD.out.2 (by omega)
                injection e with e
                simp only [Addr.mk.injEq, and_true] at e
                obtain ⟨rfl, rfl⟩ := e
                exact (hW.cell (p := ⟨_, _, none⟩) hl).trans ((HI.out.1.base.below.cell (p := ⟨_, _, none⟩) hl).symm.trans b1))
              have hxb := HRT.out.want0 j
              have hyb := HRT.out.weight0 j
              have HJK := Lib.hid hjk
              have c2 := (HI.out.1.base.seat hj).1
              have hkn : kS (fn xs) s (j + 1) = KK + (if s j = true then 0 else fn xs j) := by unfold kS at *; rw [su_succ, hkS]
              have hdn : dS (fn ys) s (j + 1) = D0 + (if s j = true then fn ys j else 0) := by rw [hD0]; unfold dS; rw [su_succ]
              have HX := Lib.hid HI.out.1
              clear a1 b1 HI hjk hkS
              cases hs : s j with
              | true =>
                rw [hs] at c2 hkn hdn
                rw [if_pos rfl] at hkn hdn
                generalize fn ys j = a at *
                obtain ⟨T, q1, hT⟩ : ∃ T, IntKind.i64.wrap (D0 + a) = T ∧ T = D0 + a := ⟨_, rfl, wrap_in (by omega) (by omega)⟩
                have HE : Hid (N0 = all - kS (fn xs) s (j + 1) ∧ T = dS (fn ys) s (j + 1)) := Lib.hid ⟨by omega, by omega⟩
                clear hkn hdn hT hxb hyb hd0 hd1 hk0 hk1 hall hN0 hD0 hs HCX
                go_upto_region 12 with fail
                clear c2
                have HS : Hid (∀ V, Below wr.heap.size wr V → (fun W : World => W.cell? ⟨gy, oy + j, none⟩ = some (.int .i64 a)) V) := Lib.hid (fun V hV => HCY.out _ (HX.out.later hV).base.below)
                refine wp_region_held_drew (S := (fun W : World => W.cell? ⟨gy, oy + j, none⟩ = some (.int .i64 a))) (by kernel_rfl) (HS.out _ (Below.refl _ _).drew) (fun hHeld => ?_)
                obtain ⟨w0, hw0⟩ : ∃ W0, W0 = wr.drew := ⟨_, rfl⟩
                have HB0 : Hid (Below wr.heap.size wr w0) := Lib.hid (by rw [hw0]; exact (Below.refl _ _).drew)
                rw [← hw0] at hHeld ⊢
                clear hw0
                refine wpAnyH_take (i := 0) (v := ?_) (by simp only [List.getElem?_toArray, List.getElem?_cons_zero] <;> rfl) (by kernel_rfl) (by kernel_rfl) (by kernel_rfl) (by exact fun _ _ _ h => h) (Or.inl ⟨by rfl, ?_⟩) hHeld ?_
                rotate_left
                · intro w hSw; (try dsimp only at hSw); go_simp; (try with_reducible rfl)
                (try simp only [Act.put, List.setIfInBounds_toArray, List.set_cons_zero, List.set_cons_succ])
                refine wpAnyH_take (i := 2) (v := ?_) (by simp only [List.getElem?_toArray, List.getElem?_cons_succ, List.getElem?_cons_zero] <;> rfl) (by kernel_rfl) (by kernel_rfl) (by kernel_rfl) (by exact fun _ _ _ h => h) (Or.inl ⟨by rfl, ?_⟩) hHeld ?_
                rotate_left
                · intro w hSw; (try dsimp only at hSw); go_simp; (try with_reducible rfl)
                (try simp only [Act.put, List.setIfInBounds_toArray, List.set_cons_zero, List.set_cons_succ])
                refine wpAnyH_take (i := 3) (v := ?_) (by simp only [List.getElem?_toArray, List.getElem?_cons_succ, List.getElem?_cons_zero] <;> rfl) (by kernel_rfl) (by kernel_rfl) (by kernel_rfl) (by exact fun _ _ _ h => h) (Or.inl ⟨by rfl, ?_⟩) hHeld ?_
                rotate_left
                · intro w hSw; (try dsimp only at hSw); go_simp; (try with_reducible rfl)
                (try simp only [Act.put, List.setIfInBounds_toArray, List.set_cons_zero, List.set_cons_succ])
                refine wpAnyH_take (i := 4) (v := ?_) (by simp only [List.getElem?_toArray, List.getElem?_cons_succ, List.getElem?_cons_zero] <;> rfl) (by kernel_rfl) (by kernel_rfl) (by kernel_rfl) (by exact fun _ _ _ h => h) (Or.inl ⟨by rfl, ?_⟩) hHeld ?_
                rotate_left
                · intro w hSw; (try dsimp only at hSw); go_simp; (try with_reducible rfl)
                (try simp only [Act.put, List.setIfInBounds_toArray, List.set_cons_zero, List.set_cons_succ])
                refine wpAnyH_take (i := 5) (v := ?_) (by simp only [List.getElem?_toArray, List.getElem?_cons_succ, List.getElem?_cons_zero] <;> rfl) (by kernel_rfl) (by kernel_rfl) (by kernel_rfl) (by exact fun _ _ _ h => h) (Or.inl ⟨by rfl, ?_⟩) hHeld ?_
                rotate_left
                · intro w hSw; (try dsimp only at hSw); go_simp; (try with_reducible rfl)
                (try simp only [Act.put, List.setIfInBounds_toArray, List.set_cons_zero, List.set_cons_succ])
                refine wpAnyH_ready (rs := [1]) (by kernel_rfl) (by simp) ?_
                refine AllReadyH.cons (by simp only [List.getElem?_toArray, List.getElem?_cons_succ, List.getElem?_cons_zero] <;> rfl) (fun K hK => ?_) AllReadyH.nil
                have HX2 := Lib.hid (HX.out.later HB0.out)
                clear HX
                obtain ⟨c0, c1⟩ := HX2.out.lev.cells
                go_simp
                refine hK.out _ _ ?_ (fun hHeld => ?_)
                · exact HS.out _ HB0.out
                clear hK K
                (try simp only [Act.put, List.setIfInBounds_toArray, List.set_cons_zero, List.set_cons_succ])
                clear c0 c1
                refine wpAnyH_take (i := 6) (v := ?_) (by simp only [List.getElem?_toArray, List.getElem?_cons_succ, List.getElem?_cons_zero] <;> rfl) (by kernel_rfl) (by kernel_rfl) (by kernel_rfl) (by exact fun _ _ _ h => h) (Or.inl ⟨by rfl, ?_⟩) hHeld ?_
                rotate_left
                · intro w hSw; (try dsimp only at hSw); go_simp; (try with_reducible rfl)
                (try simp only [Act.put, List.setIfInBounds_toArray, List.set_cons_zero, List.set_cons_succ])
                refine wpAnyH_take (i := 7) (v := ?_) (by simp only [List.getElem?_toArray, List.getElem?_cons_succ, List.getElem?_cons_zero] <;> rfl) (by kernel_rfl) (by kernel_rfl) (by kernel_rfl) (by exact fun _ _ _ h => h) (Or.inl ⟨by rfl, ?_⟩) hHeld ?_
                rotate_left
                · intro w hSw; (try dsimp only at hSw); go_simp; (try with_reducible rfl)
                (try simp only [Act.put, List.setIfInBounds_toArray, List.set_cons_zero, List.set_cons_succ])
                refine wpAnyH_ready (rs := [8]) (by kernel_rfl) (by simp) ?_
                refine AllReadyH.cons (by simp only [List.getElem?_toArray, List.getElem?_cons_succ, List.getElem?_cons_zero] <;> rfl) (fun K hK => ?_) AllReadyH.nil
                obtain ⟨c0, c1⟩ := HX2.out.lev.cells
                have hf := HX2.out.lev.thawed 1
                go_simp
                have HX := Lib.hid (HX2.out.den T)
                refine hK.out _ _ ?_ (fun hHeld => ?_)
                · exact HCY.out _ HX.out.base.below
                clear hK K c0 c1 hf HX2
                (try simp only [Act.put, List.setIfInBounds_toArray, List.set_cons_zero, List.set_cons_succ])
                refine wpAnyH_done (by kernel_rfl) ?_ _
                clear hHeld HS HB0
                generalize w0.setCell ⟨g, 1, none⟩ (.int .i64 T) = w6 at *
                go_wp2_with fail
                go_roundg z3
                case measure => omega
                case rel => exact ⟨j + 1, N0, T, by go_num, by have := HJK.out; omega, Lib.hid ⟨HX.out, HE.out.1, HE.out.2⟩⟩
              | false =>
                rw [hs] at c2 hkn hdn
                rw [if_neg (by decide)] at hkn hdn
                generalize fn xs j = a at *
                obtain ⟨T, q1, hT⟩ : ∃ T, IntKind.i64.wrap (N0 - a) = T ∧ T = N0 - a := ⟨_, rfl, wrap_in (by omega) (by omega)⟩
                have HE : Hid (T = all - kS (fn xs) s (j + 1) ∧ D0 = dS (fn ys) s (j + 1)) := Lib.hid ⟨by omega, by omega⟩
                clear hkn hdn hT hxb hyb hd0 hd1 hk0 hk1 hall hN0 hD0 hs HCY
                go_upto_region 13 with fail
                clear c2
                have HS : Hid (∀ V, Below wr.heap.size wr V → (fun W : World => W.cell? ⟨gx, ox + j, none⟩ = some (.int .i64 a)) V) := Lib.hid (fun V hV => HCX.out _ (HX.out.later hV).base.below)
                refine wp_region_held_drew (S := (fun W : World => W.cell? ⟨gx, ox + j, none⟩ = some (.int .i64 a))) (by kernel_rfl) (HS.out _ (Below.refl _ _).drew) (fun hHeld => ?_)
                obtain ⟨w0, hw0⟩ : ∃ W0, W0 = wr.drew := ⟨_, rfl⟩
                have HB0 : Hid (Below wr.heap.size wr w0) := Lib.hid (by rw [hw0]; exact (Below.refl _ _).drew)
                rw [← hw0] at hHeld ⊢
                clear hw0
                refine wpAnyH_take (i := 0) (v := ?_) (by simp only [List.getElem?_toArray, List.getElem?_cons_zero] <;> rfl) (by kernel_rfl) (by kernel_rfl) (by kernel_rfl) (by exact fun _ _ _ h => h) (Or.inl ⟨by rfl, ?_⟩) hHeld ?_
                rotate_left
                · intro w hSw; (try dsimp only at hSw); go_simp; (try with_reducible rfl)
                (try simp only [Act.put, List.setIfInBounds_toArray, List.set_cons_zero, List.set_cons_succ])
                refine wpAnyH_take (i := 2) (v := ?_) (by simp only [List.getElem?_toArray, List.getElem?_cons_succ, List.getElem?_cons_zero] <;> rfl) (by kernel_rfl) (by kernel_rfl) (by kernel_rfl) (by exact fun _ _ _ h => h) (Or.inl ⟨by rfl, ?_⟩) hHeld ?_
                rotate_left
                · intro w hSw; (try dsimp only at hSw); go_simp; (try with_reducible rfl)
                (try simp only [Act.put, List.setIfInBounds_toArray, List.set_cons_zero, List.set_cons_succ])
                refine wpAnyH_take (i := 3) (v := ?_) (by simp only [List.getElem?_toArray, List.getElem?_cons_succ, List.getElem?_cons_zero] <;> rfl) (by kernel_rfl) (by kernel_rfl) (by kernel_rfl) (by exact fun _ _ _ h => h) (Or.inl ⟨by rfl, ?_⟩) hHeld ?_
                rotate_left
                · intro w hSw; (try dsimp only at hSw); go_simp; (try with_reducible rfl)
                (try simp only [Act.put, List.setIfInBounds_toArray, List.set_cons_zero, List.set_cons_succ])
                refine wpAnyH_take (i := 4) (v := ?_) (by simp only [List.getElem?_toArray, List.getElem?_cons_succ, List.getElem?_cons_zero] <;> rfl) (by kernel_rfl) (by kernel_rfl) (by kernel_rfl) (by exact fun _ _ _ h => h) (Or.inl ⟨by rfl, ?_⟩) hHeld ?_
                rotate_left
                · intro w hSw; (try dsimp only at hSw); go_simp; (try with_reducible rfl)
                (try simp only [Act.put, List.setIfInBounds_toArray, List.set_cons_zero, List.set_cons_succ])
                refine wpAnyH_take (i := 5) (v := ?_) (by simp only [List.getElem?_toArray, List.getElem?_cons_succ, List.getElem?_cons_zero] <;> rfl) (by kernel_rfl) (by kernel_rfl) (by kernel_rfl) (by exact fun _ _ _ h => h) (Or.inl ⟨by rfl, ?_⟩) hHeld ?_
                rotate_left
                · intro w hSw; (try dsimp only at hSw); go_simp; (try with_reducible rfl)
                (try simp only [Act.put, List.setIfInBounds_toArray, List.set_cons_zero, List.set_cons_succ])
                refine wpAnyH_ready (rs := [1]) (by kernel_rfl) (by simp) ?_
                refine AllReadyH.cons (by simp only [List.getElem?_toArray, List.getElem?_cons_succ, List.getElem?_cons_zero] <;> rfl) (fun K hK => ?_) AllReadyH.nil
                have HX2 := Lib.hid (HX.out.later HB0.out)
                clear HX
                obtain ⟨c0, c1⟩ := HX2.out.lev.cells
                go_simp
                refine hK.out _ _ ?_ (fun hHeld => ?_)
                · exact HS.out _ HB0.out
                clear hK K
                (try simp only [Act.put, List.setIfInBounds_toArray, List.set_cons_zero, List.set_cons_succ])
                clear c0 c1
                refine wpAnyH_take (i := 6) (v := ?_) (by simp only [List.getElem?_toArray, List.getElem?_cons_succ, List.getElem?_cons_zero] <;> rfl) (by kernel_rfl) (by kernel_rfl) (by kernel_rfl) (by exact fun _ _ _ h => h) (Or.inl ⟨by rfl, ?_⟩) hHeld ?_
                rotate_left
                · intro w hSw; (try dsimp only at hSw); go_simp; (try with_reducible rfl)
                (try simp only [Act.put, List.setIfInBounds_toArray, List.set_cons_zero, List.set_cons_succ])
                refine wpAnyH_take (i := 7) (v := ?_) (by simp only [List.getElem?_toArray, List.getElem?_cons_succ, List.getElem?_cons_zero] <;> rfl) (by kernel_rfl) (by kernel_rfl) (by kernel_rfl) (by exact fun _ _ _ h => h) (Or.inl ⟨by rfl, ?_⟩) hHeld ?_
                rotate_left
                · intro w hSw; (try dsimp only at hSw); go_simp; (try with_reducible rfl)
                (try simp only [Act.put, List.setIfInBounds_toArray, List.set_cons_zero, List.set_cons_succ])
                refine wpAnyH_ready (rs := [8]) (by kernel_rfl) (by simp) ?_
                refine AllReadyH.cons (by simp only [List.getElem?_toArray, List.getElem?_cons_succ, List.getElem?_cons_zero] <;> rfl) (fun K hK => ?_) AllReadyH.nil
                obtain ⟨c0, c1⟩ := HX2.out.lev.cells
                have hf := HX2.out.lev.thawed 0
                go_simp
                have HX := Lib.hid (HX2.out.num T)
                refine hK.out _ _ ?_ (fun hHeld => ?_)
                · exact HCX.out _ HX.out.base.below
                clear hK K c0 c1 hf HX2
                (try simp only [Act.put, List.setIfInBounds_toArray, List.set_cons_zero, List.set_cons_succ])
                refine wpAnyH_done (by kernel_rfl) ?_ _
                clear hHeld HS HB0
                generalize w0.setCell ⟨g, 0, none⟩ (.int .i64 T) = w6 at *
                go_wp2_with fail
                go_roundg z3
                case measure => omega
                case rel => exact ⟨j + 1, T, D0, by go_num, by have := HJK.out; omega, Lib.hid ⟨HX.out, HE.out.1, HE.out.2⟩⟩
            | zero =>
              obtain rfl : j = i := by omega
              by_cases h0 : D0 = 0
              · subst h0
                obtain ⟨hlv, hss⟩ := HLF.out.none HV.out hD0.symm
                obtain ⟨rfl, rfl⟩ := HL.out 0 0 hlv
                have HX := Lib.hid HI.out.1
                have HSS := Lib.hid hss
                obtain ⟨c0, c1⟩ := HX.out.lev.cells
                clear hlv hss HI HL HLF HCS HPX HPY HRT HN HV HOLD hd0 hd1 hk0 hk1 hall hN0 hD0 hkS
                go_wp2_with (refine wpList_store_fr rfl (.tmp 6) (.tmp 58) rfl w.heap.size 0 0 0 0 rfl rfl HX.out.base.res ?_)
                exact bodyPost_ret (results_fr2 6 7 rfl _ _ rfl (HX.out.base.ended 0 0).1) rfl (HZ.out _ s (HX.out.base.ended 0 0).2.2.2 HSS.out (HX.out.base.ended 0 0).2.2.1)
              · have e0 : (D0 == 0) = false := by simpa using h0
                have hDp : 0 < dS (fn ys) s j := by rw [← hD0]; omega
                have HDP := Lib.hid hDp
                have HND : Hid (all - kS (fn xs) s j = N0 ∧ dS (fn ys) s j = D0) := Lib.hid ⟨by rw [hkS]; exact hN0.symm, hD0.symm⟩
                have HBD : Hid (-16777216 ≤ N0 ∧ N0 ≤ 1048576 ∧ 0 ≤ D0 ∧ D0 ≤ 16000) := Lib.hid (by omega)
                have HX : Hid (LkI w wr j (midS all (fn xs) (fn ys) j s 0) g N0 D0) := Lib.hid (HI.out.1.congr fun k _ => by unfold midS; rw [if_neg (by omega)])
                obtain ⟨c0, c1⟩ := HX.out.lev.cells
                clear hDp hd0 hd1 hk0 hk1 hall hN0 hD0 hkS h0 HI
                go_upto_region 17 with fail
                clear c0 c1 e0
                go_wp2_with fail
                go_loopg [13, 62] j (fun z4 b c wr3 => ∃ q : Nat, b = .bool (anyS all (fn xs) (fn ys) j s q) ∧ c = .int .i64 (q : Int) ∧ q + z4 = j ∧ Hid (LkI w wr3 j (midS all (fn xs) (fn ys) j s q) g N0 D0))
                case atStart => exact ⟨0, rfl, rfl, by omega, HX⟩
                case round =>
                  clear HX
                  obtain ⟨q, rfl, rfl, hqk, HX⟩ := hrel
                  cases gk with
                  | zero =>
                    obtain rfl : q = j := by omega
                    cases hany : anyS all (fn xs) (fn ys) q s q with
                    | false =>
                      obtain ⟨hlv, hss⟩ := HLF.out.some HDP.out (anyS_false hany)
                      rw [HND.out.1, HND.out.2] at hlv hss
                      obtain ⟨rfl, rfl⟩ := HL.out N0 D0 hlv
                      have HSS : Hid (∀ k, k < q → midS all (fn xs) (fn ys) q s q k = isS (fn xs) (fn ys) N D k) := Lib.hid (fun k hk => by
                        unfold midS nextS
                        rw [if_pos hk, HND.out.1, HND.out.2, hss k hk, Bool.and_self])
                      obtain ⟨c0, c1⟩ := HX.out.lev.cells
                      clear hlv hss HL HLF HCS HPX HPY HRT HN HV HOLD hany
                      go_wp2_with (refine wpList_store_fr rfl (.tmp 6) (.tmp 91) rfl w.heap.size _ _ 0 0 rfl rfl HX.out.base.res ?_)
                      exact bodyPost_ret (results_fr2 6 7 rfl _ _ rfl (HX.out.base.ended _ _).1) rfl (HZ.out _ _ (HX.out.base.ended _ _).2.2.2 HSS.out (HX.out.base.ended _ _).2.2.1)
                    | true =>
                      obtain ⟨k0, hk0, hks, hki⟩ := anyS_true hany
                      have HLT : Hid (cS (nextS all (fn xs) (fn ys) q s) q < z ∧ LlI w wr q (nextS all (fn xs) (fn ys) q s) ∧ Left all (fn xs) (fn ys) q (nextS all (fn xs) (fn ys) q s)) := Lib.hid (by
                        have h1 := cS_lt (s := s) (t := nextS all (fn xs) (fn ys) q s) (n := q) (fun k _ hk => by unfold nextS at hk; rw [Bool.and_eq_true] at hk; exact hk.1) ⟨k0, hk0, hks, by unfold nextS; rw [hki, Bool.and_false]⟩
                        have h2 := HCS.out
                        exact ⟨by omega, HX.out.base.congr (fun k hk => by unfold midS; rw [if_pos hk]), HLF.out.next HV.out HDP.out⟩)
                      clear hany hk0 hks hki HX HL HLF HCS HPX HPY HRT HN HV HOLD HND HBD HDP
                      go_wp2_with fail
                      go_roundg z
                      case measure => omega
                      case rel => exact ⟨_, HLT.out.1, Lib.hid HLT.out.2⟩
                  | succ z4 =>
                    have hq : q < j := by omega
                    have q1 : (q : Int) < (j : Int) := by omega
                    have hst := HX.out.base.seat hq
                    rw [show midS all (fn xs) (fn ys) j s q q = s q by unfold midS; rw [if_neg (by omega)]] at hst
                    obtain ⟨d0, d1⟩ := hst
                    have HQK := Lib.hid hqk
                    have HAN := Lib.hid (anyS_succ all (fn xs) (fn ys) j s q)
                    clear hqk
                    cases hs : s q with
                    | false =>
                      rw [hs] at d0 HAN
                      have HXX : Hid (LkI w wr j (midS all (fn xs) (fn ys) j s (q + 1)) g N0 D0) := Lib.hid (HX.out.congr fun k _ => midS_same (by unfold nextS; rw [hs, Bool.false_and]) k)
                      have HA2 : Hid (anyS all (fn xs) (fn ys) j s (q + 1) = anyS all (fn xs) (fn ys) j s q) := Lib.hid (by rw [HAN.out, Bool.false_and, Bool.or_false])
                      clear hs HX HAN d1
                      go_wp2_with fail
                      go_quiet (fail)
                      go_wp2_with fail
                      go_roundg z4
                      case measure => omega
                      case rel => exact ⟨q + 1, by rw [HA2.out], by go_num, by have := HQK.out; omega, Lib.hid (HXX.out.later (below_drewN (Below.refl _ _) _))⟩
                    | true =>
                      rw [hs] at d0 HAN
                      obtain ⟨gx, ox, rfl, a1, -⟩ := (HPX.out _ HX.out.base.below).two (i := q) (j := q) (by rw [HN.out.1]; exact hq) (by rw [HN.out.1]; exact hq)
                      obtain ⟨gy, oy, rfl, b1, -⟩ := (HPY.out _ HX.out.base.below).two (i := q) (j := q) (by rw [HN.out.2]; exact hq) (by rw [HN.out.2]; exact hq)
                      have hxb := HRT.out.want0 q
                      have hyb := HRT.out.weight0 q
                      have HIS : Hid (isS (fn xs) (fn ys) (all - kS (fn xs) s j) (dS (fn ys) s j) q = decide (fn ys q * N0 < fn xs q * D0)) := Lib.hid (by unfold isS; rw [HND.out.1, HND.out.2])
                      have hbd := HBD.out
                      generalize fn xs q = a at *
                      generalize fn ys q = c at *
                      obtain ⟨P1, r1, hP1⟩ : ∃ P1, IntKind.i64.wrap (a * D0) = P1 ∧ P1 = a * D0 := ⟨_, rfl, mul_wrap (by omega) (by omega)⟩
                      obtain ⟨P2, r2, hP2⟩ : ∃ P2, IntKind.i64.wrap (c * N0) = P2 ∧ P2 = c * N0 := ⟨_, rfl, mul_wrap (by omega) (by omega)⟩
                      rw [← hP1, ← hP2] at HIS
                      obtain ⟨c0, c1⟩ := HX.out.lev.cells
                      clear hxb hyb hbd hP1 hP2
                      cases hc : decide (P1 ≤ P2) with
                      | true =>
                        have hi : isS (fn xs) (fn ys) (all - kS (fn xs) s j) (dS (fn ys) s j) q = false := by rw [HIS.out]; exact decide_eq_false (by have := of_decide_eq_true hc; omega)
                        have HNX : Hid (false = nextS all (fn xs) (fn ys) j s q) := Lib.hid (by unfold nextS; rw [hi, Bool.and_false])
                        have HA2 : Hid (anyS all (fn xs) (fn ys) j s (q + 1) = true) := Lib.hid (by rw [HAN.out, hi]; simp)
                        have HC := Lib.hid hc
                        clear hc hs hi HAN HIS
                        go_wp2_with fail
                        go_quiet (fail)
                        rw [HC.out]
                        have HX2 := Lib.hid (HX.out.later (below_drewN (Below.refl wr.heap.size wr) nq))
                        clear HX c0 c1 a1 b1 d0 d1
                        obtain ⟨d0, d1⟩ := HX2.out.base.seat hq
                        have HXX : Hid (LkI w ((wr.drewN nq).setCell ⟨w.heap.size + 1, q, none⟩ (.bool false)) j (midS all (fn xs) (fn ys) j s (q + 1)) g N0 D0) := Lib.hid ((HX2.out.put q false).congr fun k _ => midS_next false HNX.out k)
                        clear HX2
                        go_wp2_with fail
                        go_roundg z4
                        case measure => omega
                        case rel => exact ⟨q + 1, by rw [HA2.out], by go_num, by have := HQK.out; omega, HXX⟩
                      | false =>
                        have hi : isS (fn xs) (fn ys) (all - kS (fn xs) s j) (dS (fn ys) s j) q = true := by rw [HIS.out]; exact decide_eq_true (by have := of_decide_eq_false hc; omega)
                        have HXX : Hid (LkI w wr j (midS all (fn xs) (fn ys) j s (q + 1)) g N0 D0) := Lib.hid (HX.out.congr fun k _ => midS_same (by unfold nextS; rw [hs, hi]; rfl) k)
                        have HA2 : Hid (anyS all (fn xs) (fn ys) j s (q + 1) = anyS all (fn xs) (fn ys) j s q) := Lib.hid (by rw [HAN.out, hi]; simp)
                        have HC := Lib.hid hc
                        clear hc hs hi HAN HIS HX d1
                        go_wp2_with fail
                        go_quiet (fail)
                        rw [HC.out]
                        go_wp2_with fail
                        go_roundg z4
                        case measure => omega
                        case rel => exact ⟨q + 1, by rw [HA2.out], by go_num, by have := HQK.out; omega, Lib.hid (HXX.out.later (below_drewN (Below.refl _ _) _))⟩
end Go.Proofs.Ytlpchakoikmbnaa
