/- The reference: IReady and its closure. -/
import Derived.Test.YtkcfhjbppnchoaaBk11
namespace Go.Proofs.Ytkcfhjbppnchoaa
open Go.RowKit Go.Maps

set_option maxRecDepth 100000 in
set_option maxHeartbeats 8000000 in
theorem can_any {w : World} {b : Bk} {gb gn : Nat} {n t : Int} (hb : BkAt w gb b) (hn : w.cell? ⟨gn, 0, none⟩ = some (.int .i64 n)) (hgn : gn < w.heap.size) (hok : b.Ok) (t0 : b.tm ≤ t) (t1 : t ≤ 1099511627776) (n0 : 0 ≤ n) (n1 : n ≤ 1048576) :
    Calls Try.prog 28 #[.int .i64 t, .pointer (some ⟨gb, 0, none⟩), .pointer (some ⟨gn, 0, none⟩)] w fun e w' => e = .returned (.bool (b.can n t)) ∧ Below w.heap.size w w' := by
  have HLV := Lib.hid (fun W => level_any hok t0 t1 W)
  have hne := hok.needs n0 n1
  obtain ⟨N, e1, hN⟩ : ∃ N, IntKind.i64.wrap (n * b.den) = N ∧ n * b.den = N := ⟨_, wrap_i64 (by omega) (by omega), rfl⟩
  have HE : Hid (b.can n t = decide (N ≤ b.level t)) := Lib.hid (by unfold Bk.can; rw [hN])
  have HS : Hid (∀ W, Below w.heap.size w W → (fun W : World => (W.cell? ⟨gb, 0, none⟩ = some (.int .i64 b.num) ∧ W.cell? ⟨gb, 1, none⟩ = some (.int .i64 b.den) ∧ W.cell? ⟨gb, 2, none⟩ = some (.int .i64 b.burst) ∧ W.cell? ⟨gb, 3, none⟩ = some (.int .i64 b.lev) ∧ W.cell? ⟨gb, 4, none⟩ = some (.int .i64 b.tm)) ∧ W.cell? ⟨gn, 0, none⟩ = some (.int .i64 n)) W) := Lib.hid (fun W hW => ⟨(hb.below hW).cells, (hW.cell (p := ⟨gn, 0, none⟩) hgn).trans hn⟩)
  clear hb hn hgn hok t0 t1 n0 n1 hne hN
  generalize b.can n t = R at *
  generalize b.level t = L at *
  unfold Bk.cells at HLV
  go_enter Try.func28, Try.ntmps28
  go_upto_region 1 with fail
  refine wp_region_held_drew (S := (fun W : World => (W.cell? ⟨gb, 0, none⟩ = some (.int .i64 b.num) ∧ W.cell? ⟨gb, 1, none⟩ = some (.int .i64 b.den) ∧ W.cell? ⟨gb, 2, none⟩ = some (.int .i64 b.burst) ∧ W.cell? ⟨gb, 3, none⟩ = some (.int .i64 b.lev) ∧ W.cell? ⟨gb, 4, none⟩ = some (.int .i64 b.tm)) ∧ W.cell? ⟨gn, 0, none⟩ = some (.int .i64 n))) (by kernel_rfl) (HS.out _ (Below.refl _ _).drew) (fun hHeld => ?_)
  obtain ⟨w0, hw0⟩ : ∃ W0, W0 = w.drew := ⟨_, rfl⟩
  have HB0 : Hid (Below w.heap.size w w0) := Lib.hid (by rw [hw0]; exact (Below.refl _ _).drew)
  rw [← hw0] at hHeld ⊢
  clear hw0
  refine wpAnyH_take (i := 0) (v := ?_) (by simp only [List.getElem?_toArray, List.getElem?_cons_zero] <;> rfl) (by kernel_rfl) (by kernel_rfl) (by kernel_rfl) (by exact fun _ _ _ h => h) (Or.inl ⟨by rfl, ?_⟩) hHeld ?_
  rotate_left
  · intro w hSw; (try dsimp only at hSw); go_simp; (try with_reducible rfl)
  (try simp only [Act.put, List.setIfInBounds_toArray, List.set_cons_zero, List.set_cons_succ])
  refine wpAnyH_take (i := 1) (v := ?_) (by simp only [List.getElem?_toArray, List.getElem?_cons_succ, List.getElem?_cons_zero] <;> rfl) (by kernel_rfl) (by kernel_rfl) (by kernel_rfl) (by exact fun _ _ _ h => h) (Or.inl ⟨by rfl, ?_⟩) hHeld ?_
  rotate_left
  · intro w hSw; (try dsimp only at hSw); go_simp; (try with_reducible rfl)
  (try simp only [Act.put, List.setIfInBounds_toArray, List.set_cons_zero, List.set_cons_succ])
  refine wpAnyH_take (i := 3) (v := ?_) (by simp only [List.getElem?_toArray, List.getElem?_cons_succ, List.getElem?_cons_zero] <;> rfl) (by kernel_rfl) (by kernel_rfl) (by kernel_rfl) (by exact fun _ _ _ h => h) (Or.inl ⟨by rfl, ?_⟩) hHeld ?_
  rotate_left
  · intro w hSw; (try dsimp only at hSw); go_simp; (try with_reducible rfl)
  (try simp only [Act.put, List.setIfInBounds_toArray, List.set_cons_zero, List.set_cons_succ])
  refine wpAnyH_take (i := 4) (v := ?_) (by simp only [List.getElem?_toArray, List.getElem?_cons_succ, List.getElem?_cons_zero] <;> rfl) (by kernel_rfl) (by kernel_rfl) (by kernel_rfl) (by exact fun _ _ _ h => h) (Or.inl ⟨by rfl, ?_⟩) hHeld ?_
  rotate_left
  · intro w hSw; (try dsimp only at hSw); go_simp; (try with_reducible rfl)
  (try simp only [Act.put, List.setIfInBounds_toArray, List.set_cons_zero, List.set_cons_succ])
  refine wpAnyH_take (i := 5) (v := ?_) (by simp only [List.getElem?_toArray, List.getElem?_cons_succ, List.getElem?_cons_zero] <;> rfl) (by kernel_rfl) (by kernel_rfl) (by kernel_rfl) (by exact fun _ _ _ h => h) (Or.inl ⟨by rfl, ?_⟩) hHeld ?_
  rotate_left
  · intro w hSw; (try dsimp only at hSw); go_simp; (try with_reducible rfl)
  (try simp only [Act.put, List.setIfInBounds_toArray, List.set_cons_zero, List.set_cons_succ])
  refine wpAnyH_take (i := 6) (v := ?_) (by simp only [List.getElem?_toArray, List.getElem?_cons_succ, List.getElem?_cons_zero] <;> rfl) (by kernel_rfl) (by kernel_rfl) (by kernel_rfl) (by exact fun _ _ _ h => h) (Or.inl ⟨by rfl, ?_⟩) hHeld ?_
  rotate_left
  · intro w hSw; (try dsimp only at hSw); go_simp; (try with_reducible rfl)
  (try simp only [Act.put, List.setIfInBounds_toArray, List.set_cons_zero, List.set_cons_succ])
  refine wpAnyH_ready (rs := [2]) (by kernel_rfl) (by simp) ?_
  refine AllReadyH.cons (by simp only [List.getElem?_toArray, List.getElem?_cons_succ, List.getElem?_cons_zero] <;> rfl) (fun K hK => ?_) AllReadyH.nil
  go_simp
  go_at_call 15
  refine (HLV.out _).mono ?_
  rintro e w1 ⟨rfl, hb1⟩
  have HB1 := Lib.hid (HB0.out.trans (hb1.mono HB0.out.size))
  clear hb1
  go_wp2_with fail
  refine hK.out _ _ ?_ (fun hHeld => ?_)
  · exact HS.out _ HB1.out
  clear hK K
  (try simp only [Act.put, List.setIfInBounds_toArray, List.set_cons_zero, List.set_cons_succ])
  refine wpAnyH_take (i := 7) (v := ?_) (by simp only [List.getElem?_toArray, List.getElem?_cons_succ, List.getElem?_cons_zero] <;> rfl) (by kernel_rfl) (by kernel_rfl) (by kernel_rfl) (by exact fun _ _ _ h => h) (Or.inl ⟨by rfl, ?_⟩) hHeld ?_
  rotate_left
  · intro w hSw; (try dsimp only at hSw); go_simp; (try with_reducible rfl)
  (try simp only [Act.put, List.setIfInBounds_toArray, List.set_cons_zero, List.set_cons_succ])
  refine wpAnyH_take (i := 8) (v := ?_) (by simp only [List.getElem?_toArray, List.getElem?_cons_succ, List.getElem?_cons_zero] <;> rfl) (by kernel_rfl) (by kernel_rfl) (by kernel_rfl) (by exact fun _ _ _ h => h) (Or.inl ⟨by rfl, ?_⟩) hHeld ?_
  rotate_left
  · intro w hSw; (try dsimp only at hSw); go_simp; (try with_reducible rfl)
  (try simp only [Act.put, List.setIfInBounds_toArray, List.set_cons_zero, List.set_cons_succ])
  refine wpAnyH_done (by kernel_rfl) ?_ _
  go_wp2_with fail
  go_ret
  exact ⟨ret_bool HE.out.symm, HB1.out⟩

/-- A bucket's box and a number's box behind it. -/
structure BoxN (w W : World) (b : Bk) (n : Int) : Prop where
  below : Below w.heap.size w W
  first : BkAt W w.heap.size b
  num : W.cell? ⟨w.heap.size + 1, 0, none⟩ = some (.int .i64 n)
  lt : w.heap.size + 1 < W.heap.size
def oneN (w : World) (b : Bk) (n : Int) : World := (w.alloc (.cells #[.int .i64 b.num, .int .i64 b.den, .int .i64 b.burst, .int .i64 b.lev, .int .i64 b.tm] 23)).alloc (.cells #[.int .i64 n] 3)
theorem boxN (w : World) (b : Bk) (n : Int) : BoxN w (oneN w b n) b n := by
  have b1 : Below w.heap.size w (w.alloc (.cells b.cells 23)) := (Below.refl _ _).alloc (Nat.le_refl _) _
  refine ⟨b1.alloc b1.size _, ?_, ?_, by unfold oneN; simp⟩
  · unfold BkAt oneN
    rw [Below.heap_alloc _ _ _ (by simp)]
    exact heap_alloc_new w _
  · have : w.heap.size + 1 = (w.alloc (.cells #[.int .i64 b.num, .int .i64 b.den, .int .i64 b.burst, .int .i64 b.lev, .int .i64 b.tm] 23)).heap.size := by simp
    rw [this]
    exact cell_of_row _ _ 0 _ _ _ (heap_alloc_new _ _)
theorem BoxN.later {w W W' : World} {b : Bk} {n : Int} (h : BoxN w W b n) (hb : Below W.heap.size W W') : BoxN w W' b n :=
  ⟨h.below.trans (hb.mono h.below.size), h.first.below hb, (hb.cell (p := ⟨w.heap.size + 1, 0, none⟩) h.lt).trans h.num, Nat.lt_of_lt_of_le h.lt hb.size⟩
/-- A time and a word are the answer. -/
def Found2 (w : World) (r : Int × Bool × Int) (e : Ending) (w' : World) : Prop := e = .returned (.tuple #[.int .i64 r.1, .bool r.2.1]) ∧ Below w.heap.size w w'
theorem found2_mk {w W : World} {r : Int × Bool × Int} {a c : Int} {u : Bool} (h : r = (a, u, c)) (hb : Below w.heap.size w W) : Found2 w r (.returned (.tuple #[.int .i64 a, .bool u])) W := by
  rw [h]
  exact ⟨rfl, hb⟩
theorem ready_never {b : Bk} (h : b.Ok) {n : Int} (n0 : 0 ≤ n) (n1 : n ≤ 1048576) (hc : b.can n 1099511627776 = false) : b.ready n = (0, false, 0) := by
  rcases h.ready n0 n1 with ⟨r, _, h2, h3, h4⟩ | ⟨h1, _⟩
  · have := (h4 1099511627776 (by omega)).2 h3
    rw [hc] at this
    cases this
  · exact h1
theorem ready_least {b : Bk} (h : b.Ok) {n l : Int} (n0 : 0 ≤ n) (n1 : n ≤ 1048576) (l0 : b.tm ≤ l) (l1 : l ≤ 1099511627776) (hc : b.can n l = true) (hb : ∀ t, b.tm ≤ t → t < l → b.can n t = false) : b.ready n = (l, true, 0) := by
  rcases h.ready n0 n1 with ⟨r, h1, h2, h3, h4⟩ | ⟨h1, h2⟩
  · have a := (h4 l l0).1 hc
    rcases (by omega : r < l ∨ r = l) with c | c
    · have := hb r h2 c
      rw [(h4 r h2).2 (Int.le_refl _)] at this
      cases this
    · rw [h1, c]
  · rw [h2 l l1 l0] at hc
    cases hc
/-- Where there are tokens at a time, there are at each later one. -/
theorem can_mono {b : Bk} (h : b.Ok) {n s t : Int} (h0 : b.can n s = true) (hs : s ≤ t) : b.can n t = true := by
  rw [Bk.can_iff] at h0 ⊢
  have := Int.mul_le_mul_of_nonneg_left (show s - b.tm ≤ t - b.tm by omega) h.n0
  omega

set_option maxRecDepth 100000 in
set_option maxHeartbeats 8000000 in
theorem iReady_any {b : Bk} (hok : b.Ok) {n : Int} (n0 : 0 ≤ n) (n1 : n ≤ 1048576) (w : World) :
    Calls Try.prog 16 #[.agg b.cells, .int .i64 n] w (Found2 w (b.ready n)) := by
  have HX := Lib.hid (boxN w b n)
  have HC : Hid (∀ W t, BoxN w W b n → b.tm ≤ t → t ≤ 1099511627776 → Calls Try.prog 28 #[.int .i64 t, .pointer (some ⟨w.heap.size, 0, none⟩), .pointer (some ⟨w.heap.size + 1, 0, none⟩)] W fun e w' => e = .returned (.bool (b.can n t)) ∧ Below W.heap.size W w') := Lib.hid (fun W t hW h0 h1 => can_any hW.first hW.num hW.lt hok h0 h1 n0 n1)
  have HZ : Hid (∀ W, Below w.heap.size w W → b.can n 1099511627776 = false → Found2 w (b.ready n) (.returned (.tuple #[.int .i64 0, .bool false])) W) := Lib.hid (fun W hW h => found2_mk (ready_never hok n0 n1 h) hW)
  have HT : Hid (∀ W l, Below w.heap.size w W → b.tm ≤ l → l ≤ 1099511627776 → b.can n l = true → (∀ t, b.tm ≤ t → t < l → b.can n t = false) → Found2 w (b.ready n) (.returned (.tuple #[.int .i64 l, .bool true])) W) := Lib.hid (fun W l hW l0 l1 h hl => found2_mk (ready_least hok n0 n1 l0 l1 h hl) hW)
  have HMO : Hid (∀ m t, b.can n m = false → t ≤ m → b.can n t = false) := Lib.hid (fun m t h hm => by
    rw [Bool.eq_false_iff] at h ⊢
    exact fun e => h (can_mono hok e hm))
  have hm0 := hok.t0
  have hm1 := hok.t1
  clear hok n0 n1
  generalize Found2 w (b.ready n) = D at *
  obtain ⟨c0, c1, c2, c3, c4⟩ := HX.out.first.cells
  have cn := HX.out.num
  unfold Bk.cells
  go_enter Try.func16, Try.ntmps16
  go_upto_region 1 with fail
  change Code.wp _ _ _ _ (oneN w b n)
  generalize oneN w b n = m at *
  have HK := Lib.hid (HC.out m 1099511627776 HX.out hm1 (by omega))
  cases hk : b.can n 1099511627776 with
  | false =>
    have HZ2 := Lib.hid (fun W hW => HZ.out W hW hk)
    rw [hk] at HK
    clear hk HZ HT HMO HC
    go_wp2_with fail
    refine HK.out.mono ?_
    rintro e w1 ⟨rfl, hb⟩
    have HX1 := Lib.hid (HX.out.later hb)
    clear HX hb HK c0 c1 c2 c3 c4 cn
    go_wp2_with fail
    exact HZ2.out _ HX1.out.below
  | true =>
    rw [hk] at HK
    have HKK := Lib.hid hk
    clear hk HZ
    go_wp2_with fail
    refine HK.out.mono ?_
    rintro e w1 ⟨rfl, hb⟩
    have HX1 := Lib.hid (HX.out.later hb)
    clear HX hb HK c0 c1 c2 c3 c4 cn
    go_wp2_with fail
    go_loopg [7, 8] (1099511627776 - b.tm).toNat (fun k lo hi wr => ∃ l h : Int, lo = .int .i64 l ∧ hi = .int .i64 h ∧ h - l = (k : Int) ∧ b.tm ≤ l ∧ h ≤ 1099511627776 ∧ Hid (b.can n h = true ∧ (∀ t, b.tm ≤ t → t < l → b.can n t = false)) ∧ Hid (BoxN w wr b n))
    case atStart => exact ⟨b.tm, 1099511627776, rfl, rfl, by omega, Int.le_refl _, Int.le_refl _, Lib.hid ⟨HKK.out, fun t h0 h1 => absurd h1 (by omega)⟩, HX1⟩
    case round =>
      clear HX1
      obtain ⟨l, h, rfl, rfl, hk, hl, hh, HI, HX1⟩ := hrel
      cases gk with
      | zero =>
        obtain rfl : l = h := by omega
        have HZ2 := Lib.hid (HT.out _ _ HX1.out.below hl hh HI.out.1 HI.out.2)
        clear HT HI HMO HC hk
        go_wp2_with fail
        exact HZ2.out
      | succ k =>
        have hlh : l < h := by omega
        have hl0 : 0 ≤ l := by omega
        obtain ⟨md, hmd⟩ : ∃ md, (l + h) / 2 = md := ⟨_, rfl⟩
        have hm2 : l ≤ md := by omega
        have hm3 : md < h := by omega
        have HK := Lib.hid (HC.out _ md HX1.out (by omega) (by omega))
        have HMD := Lib.hid hmd
        clear HKK
        cases hc : b.can n md with
        | true =>
          rw [hc] at HK
          have HJ : Hid (b.can n md = true ∧ (∀ t, b.tm ≤ t → t < l → b.can n t = false)) := Lib.hid ⟨hc, HI.out.2⟩
          clear hc HI HMO HT HC
          have hk2 : ∃ k2 : Nat, md - l = (k2 : Int) ∧ k2 < k + 1 := ⟨(md - l).toNat, by omega, by omega⟩
          obtain ⟨k2, hk3, hk4⟩ := hk2
          clear hk
          go_wp2_with fail
          refine HK.out.mono ?_
          rintro e w2 ⟨rfl, hb⟩
          have HX2 := Lib.hid (HX1.out.later hb)
          clear HX1 hb HK
          go_wp2_with fail
          go_roundg k2
          case measure => omega
          case rel => exact ⟨l, md, rfl, rfl, hk3, hl, by omega, HJ, HX2⟩
        | false =>
          rw [hc] at HK
          have HJ : Hid (b.can n h = true ∧ (∀ t, b.tm ≤ t → t < md + 1 → b.can n t = false)) := Lib.hid ⟨HI.out.1, fun t _ h1 => HMO.out md t hc (by omega)⟩
          clear hc HI HMO HT HC
          have hk2 : ∃ k2 : Nat, h - (md + 1) = (k2 : Int) ∧ k2 < k + 1 := ⟨(h - (md + 1)).toNat, by omega, by omega⟩
          obtain ⟨k2, hk3, hk4⟩ := hk2
          clear hk
          go_wp2_with fail
          refine HK.out.mono ?_
          rintro e w2 ⟨rfl, hb⟩
          have HX2 := Lib.hid (HX1.out.later hb)
          clear HX1 hb HK
          go_wp2_with fail
          go_roundg k2
          case measure => omega
          case rel => exact ⟨md + 1, h, rfl, rfl, hk3, by omega, hh, HJ, HX2⟩
end Go.Proofs.Ytkcfhjbppnchoaa
