/- Of two prefixes one is within the other, or they have no address in common. -/
import Derived.Test.YtcadjgmglaimdaaTr9
namespace Go.Proofs.Ytcadjgmglaimdaa
open Go.RowKit Go.Maps

theorem top_top {x k l : Nat} (h : k ≤ l) (hl : l ≤ 32) : top x k = top x l / 2 ^ (l - k) := by
  unfold top
  rw [Nat.div_div_eq_div_mul, ← Nat.pow_add, show 32 - l + (l - k) = 32 - k by omega]
theorem nest_in {x : Nat} {p q : Pf} (hp : within x p) (hq : within x q) (h : p.bits ≤ q.bits) : within q.n p := by
  obtain ⟨⟨p0, p1⟩, p2⟩ := hp
  obtain ⟨⟨q0, q1⟩, q2⟩ := hq
  have hb : p.b ≤ q.b ∧ q.b ≤ 32 := by unfold Pf.b; omega
  exact ⟨⟨p0, p1⟩, by rw [top_top hb.1 hb.2, ← q2, ← top_top hb.1 hb.2, p2]⟩
theorem nest_out {x : Nat} {p q : Pf} (hq : within x q) (hp : within q.n p) (h : p.bits ≤ q.bits) : within x p := by
  obtain ⟨⟨p0, p1⟩, p2⟩ := hp
  obtain ⟨⟨q0, q1⟩, q2⟩ := hq
  have hb : p.b ≤ q.b ∧ q.b ≤ 32 := by unfold Pf.b; omega
  exact ⟨⟨p0, p1⟩, by rw [← p2, top_top hb.1 hb.2, q2, ← top_top hb.1 hb.2]⟩

theorem alloc_at (w : World) (o : Obj) (k : Nat) (hk : k < w.heap.size) : (w.alloc o).heap[k]? = w.heap[k]? := Below.heap_alloc _ _ _ hk
theorem wrong_one (p : Pf) (hp : p.ad.Ok) (w : World) : Calls Try.prog 11 #[.slice (some ⟨w.heap.size, 0, none⟩) 1 1] (w.alloc (.cells #[.int .u8 p.ad.a0, .int .u8 p.ad.a1, .int .u8 p.ad.a2, .int .u8 p.ad.a3, .int .i64 p.bits, .int .i64 p.led] 26)) fun e w' => e = .returned (.int .i64 (wrong [p])) ∧ Below w.heap.size w w' := by
  have h := lit_pfs w [p] (fun q hq => by obtain rfl : q = p := by simpa using hq
                                          exact hp) (by simp)
  refine (wrong_any h (cap := 1) (by simp)).mono ?_
  rintro e w1 ⟨rfl, hb⟩
  have h0 : Below w.heap.size w (w.alloc (.cells (pfCells [p]).toArray 26)) := (Below.refl _ _).alloc (Nat.le_refl _) _
  exact ⟨rfl, h0.trans (hb.mono h0.size)⟩
theorem pf_of_block {w : World} {g : Nat} {p : Pf} (h : w.heap[g]? = some (.cells #[.int .u8 p.ad.a0, .int .u8 p.ad.a1, .int .u8 p.ad.a2, .int .u8 p.ad.a3, .int .i64 p.bits, .int .i64 p.led] 26 (0, 0))) : PfAt w g 0 p :=
  ⟨cell_of_row w g 0 _ _ _ h, cell_of_row w g 1 _ _ _ h, cell_of_row w g 2 _ _ _ h, cell_of_row w g 3 _ _ _ h, cell_of_row w g 4 _ _ _ h, cell_of_row w g 5 _ _ _ h⟩
theorem ad_of_block {w : World} {g : Nat} {a : Ad} (h : w.heap[g]? = some (.cells #[.int .u8 a.a0, .int .u8 a.a1, .int .u8 a.a2, .int .u8 a.a3] 24 (0, 0))) : AdAt w g 0 a :=
  ⟨cell_of_row w g 0 _ _ _ h, cell_of_row w g 1 _ _ _ h, cell_of_row w g 2 _ _ _ h, cell_of_row w g 3 _ _ _ h⟩

set_option maxRecDepth 100000 in
set_option maxHeartbeats 4000000 in
theorem nest_walk (p q : Pf) (a : Ad) (hp : p.ad.Ok) (hq : q.ad.Ok) (ha : a.Ok) (w : World) :
    Calls Try.prog 7 #[.agg #[.int .u8 p.ad.a0, .int .u8 p.ad.a1, .int .u8 p.ad.a2, .int .u8 p.ad.a3, .int .i64 p.bits, .int .i64 p.led], .agg #[.int .u8 q.ad.a0, .int .u8 q.ad.a1, .int .u8 q.ad.a2, .int .u8 q.ad.a3, .int .i64 q.bits, .int .i64 q.led], .agg #[.int .u8 a.a0, .int .u8 a.a1, .int .u8 a.a2, .int .u8 a.a3]] w fun e w' => e = .returned (.bool true) ∧ Below w.heap.size w w' := by
  have H1 := Lib.hid (fun w => alive6_any w)
  have H2 := Lib.hid (fun w => wrong_one p hp w)
  have H3 := Lib.hid (fun w => wrong_one q hq w)
  have HWP : Hid (∀ w, Calls Try.prog 12 #[.agg #[.int .u8 a.a0, .int .u8 a.a1, .int .u8 a.a2, .int .u8 a.a3], .agg #[.int .u8 p.ad.a0, .int .u8 p.ad.a1, .int .u8 p.ad.a2, .int .u8 p.ad.a3, .int .i64 p.bits, .int .i64 p.led]] w fun e w' => e = .returned (.bool (inB a.num p)) ∧ Below w.heap.size w w') := Lib.hid (fun w => within_any a p ha hp w)
  have HWQ : Hid (∀ w, Calls Try.prog 12 #[.agg #[.int .u8 a.a0, .int .u8 a.a1, .int .u8 a.a2, .int .u8 a.a3], .agg #[.int .u8 q.ad.a0, .int .u8 q.ad.a1, .int .u8 q.ad.a2, .int .u8 q.ad.a3, .int .i64 q.bits, .int .i64 q.led]] w fun e w' => e = .returned (.bool (inB a.num q)) ∧ Below w.heap.size w w') := Lib.hid (fun w => within_any a q ha hq w)
  have HQP : Hid (∀ w, Calls Try.prog 12 #[.agg #[.int .u8 q.ad.a0, .int .u8 q.ad.a1, .int .u8 q.ad.a2, .int .u8 q.ad.a3], .agg #[.int .u8 p.ad.a0, .int .u8 p.ad.a1, .int .u8 p.ad.a2, .int .u8 p.ad.a3, .int .i64 p.bits, .int .i64 p.led]] w fun e w' => e = .returned (.bool (inB q.n p)) ∧ Below w.heap.size w w') := Lib.hid (fun w => within_any q.ad p hq hp w)
  have HI1 : Hid (p.bits ≤ q.bits → inB a.num p = true → inB a.num q = true → inB q.n p = true) := Lib.hid (fun h h1 h2 => inB_true (nest_in (inB_iff.1 h1) (inB_iff.1 h2) h))
  have HI2 : Hid (p.bits ≤ q.bits → inB a.num q = true → inB q.n p = true → inB a.num p = true) := Lib.hid (fun h h1 h2 => inB_true (nest_out (inB_iff.1 h1) (inB_iff.1 h2) h))
  generalize inB a.num p = IP at *
  generalize inB a.num q = IQ at *
  generalize inB q.n p = QP at *
  generalize wrong [p] = WP at *
  generalize wrong [q] = WQ at *
  have s1 : (w.alloc (.cells #[.int .u8 p.ad.a0, .int .u8 p.ad.a1, .int .u8 p.ad.a2, .int .u8 p.ad.a3, .int .i64 p.bits, .int .i64 p.led] 26)).heap.size = w.heap.size + 1 := by simp
  have s2 : ((w.alloc (.cells #[.int .u8 p.ad.a0, .int .u8 p.ad.a1, .int .u8 p.ad.a2, .int .u8 p.ad.a3, .int .i64 p.bits, .int .i64 p.led] 26)).alloc (.cells #[.int .u8 q.ad.a0, .int .u8 q.ad.a1, .int .u8 q.ad.a2, .int .u8 q.ad.a3, .int .i64 q.bits, .int .i64 q.led] 26)).heap.size = w.heap.size + 1 + 1 := by simp
  have b1 : (((w.alloc (.cells #[.int .u8 p.ad.a0, .int .u8 p.ad.a1, .int .u8 p.ad.a2, .int .u8 p.ad.a3, .int .i64 p.bits, .int .i64 p.led] 26)).alloc (.cells #[.int .u8 q.ad.a0, .int .u8 q.ad.a1, .int .u8 q.ad.a2, .int .u8 q.ad.a3, .int .i64 q.bits, .int .i64 q.led] 26)).alloc (.cells #[.int .u8 a.a0, .int .u8 a.a1, .int .u8 a.a2, .int .u8 a.a3] 24)).heap[w.heap.size]? = some (.cells #[.int .u8 p.ad.a0, .int .u8 p.ad.a1, .int .u8 p.ad.a2, .int .u8 p.ad.a3, .int .i64 p.bits, .int .i64 p.led] 26 (0, 0)) := by
    rw [alloc_at _ _ _ (by omega), alloc_at _ _ _ (by omega)]
    exact heap_alloc_new w _
  have b2 : (((w.alloc (.cells #[.int .u8 p.ad.a0, .int .u8 p.ad.a1, .int .u8 p.ad.a2, .int .u8 p.ad.a3, .int .i64 p.bits, .int .i64 p.led] 26)).alloc (.cells #[.int .u8 q.ad.a0, .int .u8 q.ad.a1, .int .u8 q.ad.a2, .int .u8 q.ad.a3, .int .i64 q.bits, .int .i64 q.led] 26)).alloc (.cells #[.int .u8 a.a0, .int .u8 a.a1, .int .u8 a.a2, .int .u8 a.a3] 24)).heap[w.heap.size + 1]? = some (.cells #[.int .u8 q.ad.a0, .int .u8 q.ad.a1, .int .u8 q.ad.a2, .int .u8 q.ad.a3, .int .i64 q.bits, .int .i64 q.led] 26 (0, 0)) := by
    rw [alloc_at _ _ _ (by omega), ← s1]
    exact heap_alloc_new _ _
  have b3 : (((w.alloc (.cells #[.int .u8 p.ad.a0, .int .u8 p.ad.a1, .int .u8 p.ad.a2, .int .u8 p.ad.a3, .int .i64 p.bits, .int .i64 p.led] 26)).alloc (.cells #[.int .u8 q.ad.a0, .int .u8 q.ad.a1, .int .u8 q.ad.a2, .int .u8 q.ad.a3, .int .i64 q.bits, .int .i64 q.led] 26)).alloc (.cells #[.int .u8 a.a0, .int .u8 a.a1, .int .u8 a.a2, .int .u8 a.a3] 24)).heap[w.heap.size + 1 + 1]? = some (.cells #[.int .u8 a.a0, .int .u8 a.a1, .int .u8 a.a2, .int .u8 a.a3] 24 (0, 0)) := by
    rw [← s2]
    exact heap_alloc_new _ _
  have b0 : Below w.heap.size w (((w.alloc (.cells #[.int .u8 p.ad.a0, .int .u8 p.ad.a1, .int .u8 p.ad.a2, .int .u8 p.ad.a3, .int .i64 p.bits, .int .i64 p.led] 26)).alloc (.cells #[.int .u8 q.ad.a0, .int .u8 q.ad.a1, .int .u8 q.ad.a2, .int .u8 q.ad.a3, .int .i64 q.bits, .int .i64 q.led] 26)).alloc (.cells #[.int .u8 a.a0, .int .u8 a.a1, .int .u8 a.a2, .int .u8 a.a3] 24)) := (((Below.refl _ w).alloc (Nat.le_refl _) _).alloc (by omega) _).alloc (by omega) _
  have HS : Hid (∀ W, Below (((w.alloc (.cells #[.int .u8 p.ad.a0, .int .u8 p.ad.a1, .int .u8 p.ad.a2, .int .u8 p.ad.a3, .int .i64 p.bits, .int .i64 p.led] 26)).alloc (.cells #[.int .u8 q.ad.a0, .int .u8 q.ad.a1, .int .u8 q.ad.a2, .int .u8 q.ad.a3, .int .i64 q.bits, .int .i64 q.led] 26)).alloc (.cells #[.int .u8 a.a0, .int .u8 a.a1, .int .u8 a.a2, .int .u8 a.a3] 24)).heap.size (((w.alloc (.cells #[.int .u8 p.ad.a0, .int .u8 p.ad.a1, .int .u8 p.ad.a2, .int .u8 p.ad.a3, .int .i64 p.bits, .int .i64 p.led] 26)).alloc (.cells #[.int .u8 q.ad.a0, .int .u8 q.ad.a1, .int .u8 q.ad.a2, .int .u8 q.ad.a3, .int .i64 q.bits, .int .i64 q.led] 26)).alloc (.cells #[.int .u8 a.a0, .int .u8 a.a1, .int .u8 a.a2, .int .u8 a.a3] 24)) W → (PfAt W w.heap.size 0 p ∧ PfAt W (w.heap.size + 1) 0 q ∧ AdAt W (w.heap.size + 1 + 1) 0 a) ∧ Below w.heap.size w W) := Lib.hid (fun W hW =>
    ⟨⟨pf_of_block ((hW.block _ (by simp; omega)).trans b1), pf_of_block ((hW.block _ (by simp)).trans b2), ad_of_block ((hW.block _ (by simp)).trans b3)⟩, b0.trans (hW.mono b0.size)⟩)
  clear s1 s2 b0 b1 b2 b3 hp hq ha
  go_enter Try.func7, Try.ntmps7
  go_wp2_with fail
  generalize (((w.alloc (.cells #[.int .u8 p.ad.a0, .int .u8 p.ad.a1, .int .u8 p.ad.a2, .int .u8 p.ad.a3, .int .i64 p.bits, .int .i64 p.led] 26)).alloc (.cells #[.int .u8 q.ad.a0, .int .u8 q.ad.a1, .int .u8 q.ad.a2, .int .u8 q.ad.a3, .int .i64 q.bits, .int .i64 q.led] 26)).alloc (.cells #[.int .u8 a.a0, .int .u8 a.a1, .int .u8 a.a2, .int .u8 a.a3] 24)) = m at *
  refine (H1.out _).mono ?_
  rintro e w1 ⟨rfl, hb⟩
  have HB1 : Hid (Below m.heap.size m w1) := Lib.hid (hb)
  clear hb
  obtain ⟨⟨⟨x0, x1, x2, x3, x4, x5⟩, ⟨y0, y1, y2, y3, y4, y5⟩, z0, z1, z2, z3⟩, -⟩ := HS.out _ HB1.out
  simp only [Nat.zero_add] at x0 x1 x2 x3 x4 x5 y0 y1 y2 y3 y4 y5 z0 z1 z2 z3
  go_wp2_with fail
  refine (H2.out _).mono ?_
  rintro e w2 ⟨rfl, hb⟩
  have HB2 : Hid (Below m.heap.size m w2) := Lib.hid (HB1.out.trans (hb.mono HB1.out.size))
  clear hb
  clear x0 x1 x2 x3 x4 x5 y0 y1 y2 y3 y4 y5 z0 z1 z2 z3
  by_cases c1 : WP = 0
  case neg =>
    have c1' : (WP != 0) = true := by simpa using c1
    go_wp2_with fail
    go_ret
    exact ⟨rfl, (HS.out _ HB2.out).2⟩
  subst c1
  obtain ⟨⟨⟨x0, x1, x2, x3, x4, x5⟩, ⟨y0, y1, y2, y3, y4, y5⟩, z0, z1, z2, z3⟩, -⟩ := HS.out _ HB2.out
  simp only [Nat.zero_add] at x0 x1 x2 x3 x4 x5 y0 y1 y2 y3 y4 y5 z0 z1 z2 z3
  go_wp2_with fail
  refine (H3.out _).mono ?_
  rintro e w3 ⟨rfl, hb⟩
  have HB3 : Hid (Below m.heap.size m w3) := Lib.hid (HB2.out.trans (hb.mono HB2.out.size))
  clear hb
  clear x0 x1 x2 x3 x4 x5 y0 y1 y2 y3 y4 y5 z0 z1 z2 z3
  by_cases c2 : WQ = 0
  case neg =>
    have c2' : (WQ != 0) = true := by simpa using c2
    go_wp2_with fail
    go_ret
    exact ⟨rfl, (HS.out _ HB3.out).2⟩
  subst c2
  obtain ⟨⟨⟨x0, x1, x2, x3, x4, x5⟩, ⟨y0, y1, y2, y3, y4, y5⟩, z0, z1, z2, z3⟩, -⟩ := HS.out _ HB3.out
  simp only [Nat.zero_add] at x0 x1 x2 x3 x4 x5 y0 y1 y2 y3 y4 y5 z0 z1 z2 z3
  by_cases c3 : q.bits < p.bits
  case pos =>
    go_wp2_with fail
    go_ret
    exact ⟨rfl, (HS.out _ HB3.out).2⟩
  have hle : p.bits ≤ q.bits := by omega
  have HI1' := Lib.hid (HI1.out hle)
  have HI2' := Lib.hid (HI2.out hle)
  clear HI1 HI2 hle
  go_wp2_with fail
  refine (HWP.out _).mono ?_
  rintro e w4 ⟨rfl, hb⟩
  have HB4 : Hid (Below m.heap.size m w4) := Lib.hid (HB3.out.trans (hb.mono HB3.out.size))
  clear hb
  clear x0 x1 x2 x3 x4 x5 y0 y1 y2 y3 y4 y5 z0 z1 z2 z3
  obtain ⟨⟨⟨x0, x1, x2, x3, x4, x5⟩, ⟨y0, y1, y2, y3, y4, y5⟩, z0, z1, z2, z3⟩, -⟩ := HS.out _ HB4.out
  simp only [Nat.zero_add] at x0 x1 x2 x3 x4 x5 y0 y1 y2 y3 y4 y5 z0 z1 z2 z3
  cases IP with
  | false =>
    go_wp2_with fail
    refine (HWQ.out _).mono ?_
    rintro e w5 ⟨rfl, hb⟩
    have HB5 : Hid (Below m.heap.size m w5) := Lib.hid (HB4.out.trans (hb.mono HB4.out.size))
    clear hb
    clear x0 x1 x2 x3 x4 x5 y0 y1 y2 y3 y4 y5 z0 z1 z2 z3
    obtain ⟨⟨⟨x0, x1, x2, x3, x4, x5⟩, ⟨y0, y1, y2, y3, y4, y5⟩, z0, z1, z2, z3⟩, -⟩ := HS.out _ HB5.out
    simp only [Nat.zero_add] at x0 x1 x2 x3 x4 x5 y0 y1 y2 y3 y4 y5 z0 z1 z2 z3
    cases IQ with
    | false =>
      go_wp2_with fail
      go_ret
      exact ⟨rfl, (HS.out _ HB5.out).2⟩
    | true =>
      go_wp2_with fail
      refine (HQP.out _).mono ?_
      rintro e w6 ⟨rfl, hb⟩
      have HB6 : Hid (Below m.heap.size m w6) := Lib.hid (HB5.out.trans (hb.mono HB5.out.size))
      clear hb
      clear x0 x1 x2 x3 x4 x5 y0 y1 y2 y3 y4 y5 z0 z1 z2 z3
      cases QP with
      | false =>
        go_wp2_with fail
        go_ret
        exact ⟨rfl, (HS.out _ HB6.out).2⟩
      | true =>
        have := HI2'.out (by trivial) (by trivial)
        cases this
  | true =>
    go_wp2_with fail
    refine (HWQ.out _).mono ?_
    rintro e w5 ⟨rfl, hb⟩
    have HB5 : Hid (Below m.heap.size m w5) := Lib.hid (HB4.out.trans (hb.mono HB4.out.size))
    clear hb
    clear x0 x1 x2 x3 x4 x5 y0 y1 y2 y3 y4 y5 z0 z1 z2 z3
    obtain ⟨⟨⟨x0, x1, x2, x3, x4, x5⟩, ⟨y0, y1, y2, y3, y4, y5⟩, z0, z1, z2, z3⟩, -⟩ := HS.out _ HB5.out
    simp only [Nat.zero_add] at x0 x1 x2 x3 x4 x5 y0 y1 y2 y3 y4 y5 z0 z1 z2 z3
    cases IQ with
    | false =>
      go_wp2_with fail
      refine (HWQ.out _).mono ?_
      rintro e w6 ⟨rfl, hb⟩
      have HB6 : Hid (Below m.heap.size m w6) := Lib.hid (HB5.out.trans (hb.mono HB5.out.size))
      clear hb
      clear x0 x1 x2 x3 x4 x5 y0 y1 y2 y3 y4 y5 z0 z1 z2 z3
      go_wp2_with fail
      go_ret
      exact ⟨rfl, (HS.out _ HB6.out).2⟩
    | true =>
      have hqp := HI1'.out (by trivial) (by trivial)
      subst hqp
      go_wp2_with fail
      refine (HQP.out _).mono ?_
      rintro e w6 ⟨rfl, hb⟩
      have HB6 : Hid (Below m.heap.size m w6) := Lib.hid (HB5.out.trans (hb.mono HB5.out.size))
      clear hb
      clear x0 x1 x2 x3 x4 x5 y0 y1 y2 y3 y4 y5 z0 z1 z2 z3
      go_wp2_with fail
      go_ret
      exact ⟨rfl, (HS.out _ HB6.out).2⟩

end Go.Proofs.Ytcadjgmglaimdaa
