/- The reference for package trie: FFind. -/
import Derived.Test.YtcadjgmglaimdaaTrF2
namespace Go.Proofs.Ytcadjgmglaimdaa
open Go.RowKit Go.Maps

theorem info_pf1 : (Try.prog.info? 26).map (·.size) = some 6 := by kernel_rfl
theorem one_pf (p : Pf) : (p.cells.toArray.all fun x => x.oneCell') = true := by simp [Pf.cells, Value.oneCell']
def PfRow (w : World) (z : Nat) (p : Pf) : Prop := w.heap[z]? = some (.cells p.cells.toArray 26 (0, 0))
theorem PfRow.cells {w : World} {z : Nat} {p : Pf} (h : PfRow w z p) : w.cell? ⟨z, 0, none⟩ = some (.int .u8 p.ad.a0) ∧ w.cell? ⟨z, 1, none⟩ = some (.int .u8 p.ad.a1) ∧ w.cell? ⟨z, 2, none⟩ = some (.int .u8 p.ad.a2) ∧ w.cell? ⟨z, 3, none⟩ = some (.int .u8 p.ad.a3) ∧ w.cell? ⟨z, 4, none⟩ = some (.int .i64 p.bits) ∧ w.cell? ⟨z, 5, none⟩ = some (.int .i64 p.led) :=
  ⟨cell_of_row w z 0 _ _ _ h, cell_of_row w z 1 _ _ _ h, cell_of_row w z 2 _ _ _ h, cell_of_row w z 3 _ _ _ h, cell_of_row w z 4 _ _ _ h, cell_of_row w z 5 _ _ _ h⟩
theorem PfRow.below {B : Nat} {w w' : World} {z : Nat} {p : Pf} (h : PfRow w z p) (hb : Below B w w') (hl : z < B) : PfRow w' z p := (hb.block z hl).trans h
theorem PfRow.lt {w : World} {z : Nat} {p : Pf} (h : PfRow w z p) : z < w.heap.size := (Array.getElem?_eq_some_iff.1 h).1
theorem wpList_store_pf {ops : Array Oper} {rest : List Oper} {o : Oper} {a : Act} {w : World} {Q : Exit → Act → World → Prop} (hgd : o.guard = none) (x y : Operand) (ho : o.op = .store 26 x y)
    (g : Nat) (h h0 : Pf) (hx : a.eval x = .pointer (some ⟨g, 0, none⟩)) (hy : a.eval y = .agg h.cells.toArray) (hg : PfRow w g h0)
    (k : wpList Try.prog ops Q rest (a.put o.dst undef) (w.setRow g h.cells.toArray)) : wpList Try.prog ops Q (o :: rest) a w :=
  wpList_store_row hgd 26 x y ho g h.cells.toArray hx hy 26 h0.cells.toArray hg info_pf1 rfl (one_pf h) k
theorem look_next (x : Nat) (ps : List Pf) (p : Pf) : lookB x (ps ++ [p]) = if (lookB x ps).1 < p.bits ∧ inB x p = true then (p.bits, p.led) else lookB x ps := by
  unfold lookB
  rw [List.foldl_append]
  show pick x _ p = _
  unfold pick
  by_cases c : within x p
  · simp only [inB_true c, and_true, c]
  · rw [if_neg (fun h => c h.2), if_neg (fun h => by rw [inB_false c] at h; exact absurd h.2 (by decide))]

set_option maxRecDepth 100000 in
set_option maxHeartbeats 8000000 in
theorem fFind_any {w : World} {A : Option Addr} {ps : List Pf} (h : PfsIn w A ps) {cap : Nat} (hcap : ps.length ≤ cap) {a : Ad} (ha : a.Ok) :
    Calls Try.prog 14 #[.slice A ps.length cap, .agg #[.int .u8 a.a0, .int .u8 a.a1, .int .u8 a.a2, .int .u8 a.a3]] w fun e w' => e = .returned (.tuple #[.int .i64 (lookTo a.num ps), .bool (lookIs a.num ps)]) ∧ Below w.heap.size w w' := by
  obtain ⟨n, hl⟩ : ∃ n, ps.length = n := ⟨_, rfl⟩
  have hlen := h.len
  have HW : Hid (∀ p ∈ ps, ∀ w, Calls Try.prog 13 #[.agg #[.int .u8 a.a0, .int .u8 a.a1, .int .u8 a.a2, .int .u8 a.a3], .agg #[.int .u8 p.ad.a0, .int .u8 p.ad.a1, .int .u8 p.ad.a2, .int .u8 p.ad.a3, .int .i64 p.bits, .int .i64 p.led]] w fun e w' => e = .returned (.bool (inB a.num p)) ∧ Below w.heap.size w w') := Lib.hid (fun p hp w => fWithin_any a p ha (h.ok p hp) w)
  rw [hl] at hlen hcap ⊢
  have s1 : (w.alloc (.cells #[.int .u8 a.a0, .int .u8 a.a1, .int .u8 a.a2, .int .u8 a.a3] 24)).heap.size = w.heap.size + 1 := by simp
  have b1 : ((w.alloc (.cells #[.int .u8 a.a0, .int .u8 a.a1, .int .u8 a.a2, .int .u8 a.a3] 24)).alloc (.cells #[.int .u8 0, .int .u8 0, .int .u8 0, .int .u8 0, .int .i64 (-1), .int .i64 0] 26)).heap[w.heap.size]? = some (.cells #[.int .u8 a.a0, .int .u8 a.a1, .int .u8 a.a2, .int .u8 a.a3] 24 (0, 0)) := by
    rw [Below.heap_alloc _ _ _ (by omega)]
    exact heap_alloc_new w _
  have b2 : PfRow ((w.alloc (.cells #[.int .u8 a.a0, .int .u8 a.a1, .int .u8 a.a2, .int .u8 a.a3] 24)).alloc (.cells #[.int .u8 0, .int .u8 0, .int .u8 0, .int .u8 0, .int .i64 (-1), .int .i64 0] 26)) (w.heap.size + 1) ⟨⟨0, 0, 0, 0⟩, -1, 0⟩ := by
    unfold PfRow
    rw [← s1]
    exact heap_alloc_new _ _
  have b0 : Below w.heap.size w ((w.alloc (.cells #[.int .u8 a.a0, .int .u8 a.a1, .int .u8 a.a2, .int .u8 a.a3] 24)).alloc (.cells #[.int .u8 0, .int .u8 0, .int .u8 0, .int .u8 0, .int .i64 (-1), .int .i64 0] 26)) := ((Below.refl _ w).alloc (Nat.le_refl _) _).alloc (by omega) _
  have HS : Hid (∀ W, Below (w.heap.size + 1) ((w.alloc (.cells #[.int .u8 a.a0, .int .u8 a.a1, .int .u8 a.a2, .int .u8 a.a3] 24)).alloc (.cells #[.int .u8 0, .int .u8 0, .int .u8 0, .int .u8 0, .int .i64 (-1), .int .i64 0] 26)) W → (W.cell? ⟨w.heap.size, 0, none⟩ = some (.int .u8 a.a0) ∧ W.cell? ⟨w.heap.size, 1, none⟩ = some (.int .u8 a.a1) ∧ W.cell? ⟨w.heap.size, 2, none⟩ = some (.int .u8 a.a2) ∧ W.cell? ⟨w.heap.size, 3, none⟩ = some (.int .u8 a.a3)) ∧ Below w.heap.size w W) := Lib.hid (fun W hW => by
    have e := (hW.block _ (by omega)).trans b1
    exact ⟨⟨cell_of_row _ _ 0 _ _ _ e, cell_of_row _ _ 1 _ _ _ e, cell_of_row _ _ 2 _ _ _ e, cell_of_row _ _ 3 _ _ _ e⟩, b0.trans (hW.mono (by omega))⟩)
  have HQ := Lib.hid b2
  have HP := Lib.hid (And.intro h hl)
  have hlt : lookTo a.num ps = (lookB a.num ps).2 ∧ lookIs a.num ps = decide (0 ≤ (lookB a.num ps).1) := ⟨rfl, rfl⟩
  have HR := Lib.hid hlt
  clear h hl ha s1 b1 b2 b0 hlt
  go_enter Try.func14, Try.ntmps14
  go_upto_region 2 with fail
  generalize ((w.alloc (.cells #[.int .u8 a.a0, .int .u8 a.a1, .int .u8 a.a2, .int .u8 a.a3] 24)).alloc (.cells #[.int .u8 0, .int .u8 0, .int .u8 0, .int .u8 0, .int .i64 (-1), .int .i64 0] 26)) = M at *
  go_wp2_with fail
  go_loopg [12] n (fun k v12 W => ∃ i : Nat, v12 = .int .i64 (i : Int) ∧ i + k = n ∧ Hid (∃ q : Pf, PfRow W (w.heap.size + 1) q ∧ (q.bits, q.led) = lookB a.num (ps.take i) ∧ Below (w.heap.size + 1) M W))
  case atStart => exact ⟨0, rfl, by omega, Lib.hid ⟨_, HQ.out, rfl, Below.refl _ _⟩⟩
  case round =>
    clear HQ
    obtain ⟨i, rfl, hik, HI⟩ := hrel
    obtain ⟨q, hq, hqe, hbm⟩ := HI.out
    obtain ⟨⟨z0, z1, z2, z3⟩, hbw⟩ := HS.out wr hbm
    obtain ⟨y0, y1, y2, y3, y4, y5⟩ := hq.cells
    cases gk with
    | zero =>
      obtain rfl : i = n := by omega
      rw [List.take_of_length_le (by have := HP.out.2; omega)] at hqe
      have HE : Hid (lookTo a.num ps = q.led ∧ lookIs a.num ps = decide (0 ≤ q.bits)) := Lib.hid (by rw [HR.out.1, HR.out.2, ← hqe]; exact ⟨rfl, rfl⟩)
      have HB := Lib.hid hbw
      clear HI hq hqe hbm hbw HP HR HS HW z0 z1 z2 z3 y0 y1 y2 y3
      go_wp2_with fail
      go_quiet (fail)
      go_wp2_with fail
      go_ret2
      exact ⟨by rw [HE.out.1, HE.out.2]; rfl, below_drewN HB.out _⟩
    | succ k =>
      have hi : i < n := by omega
      have i1 : (i : Int) < (n : Int) := by omega
      obtain ⟨bl, off, p, rfl, hp, hat, _, _⟩ := (HP.out.1.below hbw).next (i := i) (by have := HP.out.2; omega)
      obtain ⟨x0, x1, x2, x3, x4, x5⟩ := hat
      have HWp := Lib.hid (HW.out p (List.mem_of_getElem? hp))
      have HL : Hid (lookB a.num (ps.take (i + 1)) = if q.bits < p.bits ∧ inB a.num p = true then (p.bits, p.led) else (q.bits, q.led)) := Lib.hid (by rw [take_snoc hp, look_next, ← hqe])
      have hw3 : Below wr.heap.size wr (wr.alloc (.cells #[.int .u8 p.ad.a0, .int .u8 p.ad.a1, .int .u8 p.ad.a2, .int .u8 p.ad.a3, .int .i64 p.bits, .int .i64 p.led] 26)) := (Below.refl _ _).alloc (Nat.le_refl _) _
      have hp3 : PfRow (wr.alloc (.cells #[.int .u8 p.ad.a0, .int .u8 p.ad.a1, .int .u8 p.ad.a2, .int .u8 p.ad.a3, .int .i64 p.bits, .int .i64 p.led] 26)) wr.heap.size p := heap_alloc_new wr _
      have hq3 := hq.below hw3 hq.lt
      have hb3 : Below (w.heap.size + 1) M (wr.alloc (.cells #[.int .u8 p.ad.a0, .int .u8 p.ad.a1, .int .u8 p.ad.a2, .int .u8 p.ad.a3, .int .i64 p.bits, .int .i64 p.led] 26)) := hbm.trans (hw3.mono (by have := hq.lt; omega))
      have H3 := Lib.hid (And.intro hp3 (And.intro hq3 hb3))
      have hqlt := hq.lt
      clear HI hq hqe hbw hbm hw3 hp3 hq3 hb3 hp y0 y1 y2 y3 y4 y5 z0 z1 z2 z3 HP HR HW
      go_upto_region 5 with fail
      clear x0 x1 x2 x3 x4 x5
      generalize wr.alloc (.cells #[.int .u8 p.ad.a0, .int .u8 p.ad.a1, .int .u8 p.ad.a2, .int .u8 p.ad.a3, .int .i64 p.bits, .int .i64 p.led] 26) = w3 at *
      obtain ⟨hp3, hq3, hb3⟩ := H3.out
      obtain ⟨x0, x1, x2, x3, x4, x5⟩ := hp3.cells
      obtain ⟨y0, y1, y2, y3, y4, y5⟩ := hq3.cells
      obtain ⟨⟨z0, z1, z2, z3⟩, -⟩ := HS.out w3 hb3
      clear hp3 hq3 hb3
      by_cases c : q.bits < p.bits
      case neg =>
        have HN : Hid (∃ q : Pf, PfRow w3 (w.heap.size + 1) q ∧ (q.bits, q.led) = lookB a.num (ps.take (i + 1)) ∧ Below (w.heap.size + 1) M w3) := Lib.hid ⟨q, H3.out.2.1, by rw [HL.out, if_neg (fun h => c h.1)], H3.out.2.2⟩
        clear HL H3 HWp HS
        go_wp2_with fail
        go_roundg k
        case measure => omega
        case rel => exact ⟨i + 1, by go_num, by omega, HN⟩
      go_wp2_with fail
      refine (HWp.out _).mono ?_
      rintro e w4 ⟨rfl, hb4⟩
      obtain ⟨hp3, hq3, hb3⟩ := H3.out
      have hp4 := hp3.below hb4 hp3.lt
      have hq4 := hq3.below hb4 hq3.lt
      have hb34 := hb3.trans (hb4.mono (by have := hq3.lt; omega))
      have H4 := Lib.hid (And.intro hp4 (And.intro hq4 hb34))
      clear hp3 hq3 hb3 hb4 hp4 hq4 hb34 H3 x0 x1 x2 x3 x4 x5 y0 y1 y2 y3 y4 y5 z0 z1 z2 z3 HWp HS
      cases hIB : inB a.num p with
      | false =>
        have HN : Hid (∃ q : Pf, PfRow w4 (w.heap.size + 1) q ∧ (q.bits, q.led) = lookB a.num (ps.take (i + 1)) ∧ Below (w.heap.size + 1) M w4) := Lib.hid ⟨q, H4.out.2.1, by rw [HL.out, if_neg (fun h => by rw [hIB] at h; exact absurd h.2 (by decide))], H4.out.2.2⟩
        clear HL H4
        go_wp2_with fail
        go_roundg k
        case measure => omega
        case rel => exact ⟨i + 1, by go_num, by omega, HN⟩
      | true =>
        obtain ⟨hp4, hq4, hb4⟩ := H4.out
        obtain ⟨x0, x1, x2, x3, x4, x5⟩ := hp4.cells
        have HN : Hid (∃ q : Pf, PfRow (w4.setRow (w.heap.size + 1) p.cells.toArray) (w.heap.size + 1) q ∧ (q.bits, q.led) = lookB a.num (ps.take (i + 1)) ∧ Below (w.heap.size + 1) M (w4.setRow (w.heap.size + 1) p.cells.toArray)) := Lib.hid ⟨p, setRow_heap w4 _ _ _ _ _ hq4, by rw [HL.out, if_pos ⟨c, hIB⟩], below_setRow hb4 (Nat.le_refl _) _⟩
        have HQ4 := Lib.hid hq4
        clear HL H4 hp4 hq4 hb4
        go_wp2_with (refine wpList_store_pf rfl (.tmp 6) (.tmp 26) rfl (w.heap.size + 1) p q rfl rfl HQ4.out ?_)
        go_roundg k
        case measure => omega
        case rel => exact ⟨i + 1, by go_num, by omega, HN⟩
end Go.Proofs.Ytcadjgmglaimdaa
