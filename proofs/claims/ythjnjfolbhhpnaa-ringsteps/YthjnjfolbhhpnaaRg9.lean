/- The reference: HStep. -/
import Derived.Test.YthjnjfolbhhpnaaRg7
namespace Go.Proofs.Ythjnjfolbhhpnaa
open Go.RowKit Go.Maps

def hfits (q : Qu) (n : Int) : Bool := decide ((q.has.length : Int) + 1 ≤ q.most) && decide (IntKind.i64.wrap (hb q.has + n) ≤ q.mb)
theorem hfits_eq {q : Qu} {n : Int} (ok : q.Ok) (hn : bad n = false) : hfits q n = q.fits n := by
  unfold hfits Qu.fits
  have hw : IntKind.i64.wrap (hb q.has + n) = tot q.has + n := by
    rw [hb_good ok.sizes]
    have := bad_false.1 hn
    have := tot_pos ok.sizes
    have := ok.tot
    have := ok.mb
    simp [IntKind.wrap, IntKind.bits, IntKind.signed]
    omega
  rw [hw]
  congr 1

theorem IntsIn.old {w : World} {A : Option Addr} {xs : List Int} (h : IntsIn w A xs) (g : Nat) (hg : Ab A g) (h0 : 0 < xs.length) : g < w.heap.size := by
  obtain ⟨b, off, e, hl, _⟩ := h.at_ h0
  obtain ⟨a, e2, rfl⟩ := hg
  rw [e] at e2
  injection e2 with e2
  subst e2
  exact hl
/-- Inside HStep, behind the copy. -/
structure HS (w W : World) (q : Qu) (A : Option Addr) (cap : Nat) (k n : Int) (A2 : Option Addr) (cap2 : Nat) : Prop where
  q1 : QuAt W w.heap.size q A cap
  o1 : W.heap[w.heap.size + 1]? = some (.cells #[.int .i64 k, .int .i64 n] 26 (0, 0))
  res : QuAt W (w.heap.size + 1 + 1) Qu.zero none 0
  out : QuAt W (w.heap.size + 1 + 1 + 1) q A2 cap2
  fifo : Fifo (w.heap.size + 4) W A2 q.has cap2
  ints : IntsIn W A q.has
  old : ∀ g, Ab A g → 0 < q.has.length → g < w.heap.size
  below : Below w.heap.size w W
  size : w.heap.size + 4 ≤ W.heap.size
theorem HS.later {w W W' : World} {q : Qu} {A : Option Addr} {cap : Nat} {k n : Int} {A2 : Option Addr} {cap2 : Nat} (h : HS w W q A cap k n A2 cap2) (hb : Below W.heap.size W W') : HS w W' q A cap k n A2 cap2 := by
  have hs := h.size
  exact ⟨h.q1.below hb, (hb.block _ (by omega)).trans h.o1, h.res.below hb, h.out.below hb, h.fifo.below hb, h.ints.below hb, h.old, h.below.trans (hb.mono (by omega)), Nat.le_trans hs hb.size⟩
theorem HS.made {w m : World} {q : Qu} {A : Option Addr} {cap : Nat} {k n : Int} (hP : IntsIn w A q.has) (hn : q.has.length * 8 ≤ 140737488355328)
    (hm : m = (((w.alloc (.cells (q.cells A cap) 24)).alloc (.cells #[.int .i64 k, .int .i64 n] 26)).alloc (.cells (Qu.zero.cells none 0) 24)).alloc (.cells (q.cells A cap) 24)) :
    ∃ A2 cap2 W, (∀ ty, (Builtin.append_ #[22, 22] ty #[.slice (some ⟨m.heap.size, 0, none⟩) 0 0, .slice A q.has.length cap]).run Try.prog (m.alloc (.cells #[] 3)) = .ok (.slice A2 q.has.length cap2) W) ∧
      W.cell? ⟨w.heap.size + 1 + 1 + 1, 0, none⟩ = some (.slice A q.has.length cap) ∧ W.frozen? ⟨w.heap.size + 1 + 1 + 1, 0, none⟩ = false ∧
      HS w (W.setCell ⟨w.heap.size + 1 + 1 + 1, 0, none⟩ (.slice A2 q.has.length cap2)) q A cap k n A2 cap2 := by
  have b1 : Below w.heap.size w (w.alloc (.cells (q.cells A cap) 24)) := (Below.refl _ _).alloc (Nat.le_refl _) _
  have b2 := b1.alloc b1.size (.cells #[.int .i64 k, .int .i64 n] 26)
  have b3 := b2.alloc b2.size (.cells (Qu.zero.cells none 0) 24)
  have b4 := b3.alloc b3.size (.cells (q.cells A cap) 24)
  have hsz : m.heap.size = w.heap.size + 4 := by rw [hm]; simp
  have q1 : QuAt m w.heap.size q A cap := by
    rw [hm]
    unfold QuAt
    rw [Below.heap_alloc _ _ _ (by simp <;> omega), Below.heap_alloc _ _ _ (by simp <;> omega), Below.heap_alloc _ _ _ (by simp)]
    exact heap_alloc_new w _
  have o1 : m.heap[w.heap.size + 1]? = some (.cells #[.int .i64 k, .int .i64 n] 26 (0, 0)) := by
    rw [hm, Below.heap_alloc _ _ _ (by simp <;> omega), Below.heap_alloc _ _ _ (by simp)]
    have : w.heap.size + 1 = (w.alloc (.cells (q.cells A cap) 24)).heap.size := by simp
    rw [this]
    exact heap_alloc_new _ _
  have res : QuAt m (w.heap.size + 1 + 1) Qu.zero none 0 := by
    unfold QuAt
    rw [hm, Below.heap_alloc _ _ _ (by simp)]
    have : w.heap.size + 1 + 1 = ((w.alloc (.cells (q.cells A cap) 24)).alloc (.cells #[.int .i64 k, .int .i64 n] 26)).heap.size := by simp
    rw [this]
    exact heap_alloc_new _ _
  have out : QuAt m (w.heap.size + 1 + 1 + 1) q A cap := by
    unfold QuAt
    rw [hm]
    have : w.heap.size + 1 + 1 + 1 = (((w.alloc (.cells (q.cells A cap) 24)).alloc (.cells #[.int .i64 k, .int .i64 n] 26)).alloc (.cells (Qu.zero.cells none 0) 24)).heap.size := by simp
    rw [this]
    exact heap_alloc_new _ _
  rw [← hm] at b4
  clear hm b1 b2 b3
  have bo : Below m.heap.size m (m.alloc (.cells #[] 3)) := (Below.refl _ _).alloc (Nat.le_refl _) _
  have hz : (m.alloc (.cells #[] 3)).heap.size = m.heap.size + 1 := by simp
  obtain ⟨A2, cap2, W, hr, hf, hc, hab⟩ := fifo_app (Fifo.empty (m.alloc (.cells #[] 3)) m.heap.size (Nat.le_refl _) (by omega)) ((hP.below b4).below bo) cap bo.size (by simpa using hn)
  simp only [List.length_nil, Nat.zero_add, List.nil_append] at hr hf
  have hW : Below m.heap.size m W := bo.trans (hc.below bo.size (fun k hk => by obtain ⟨a, e, rfl⟩ := hk; injection e with e; subst e; exact Nat.le_refl _))
  have hs := hW.size
  have ho := out.below hW
  have hset : ∀ (v : Value) i, i ≠ w.heap.size + 1 + 1 + 1 → (W.setCell ⟨w.heap.size + 1 + 1 + 1, 0, none⟩ v).heap[i]? = W.heap[i]? := fun v i hi => heap_setCell_other W ⟨w.heap.size + 1 + 1 + 1, 0, none⟩ i v hi
  have e : ∀ v, (W.setCell ⟨w.heap.size + 1 + 1 + 1, 0, none⟩ v).heap.size = W.heap.size := fun v => by simp [World.setCell]
  have hbw : ∀ v, Below w.heap.size W (W.setCell ⟨w.heap.size + 1 + 1 + 1, 0, none⟩ v) := fun v => (Below.refl _ _).setCell (by show w.heap.size ≤ w.heap.size + 1 + 1 + 1; omega) _
  have hwW : Below w.heap.size w W := b4.trans (hW.mono (by omega))
  refine ⟨A2, cap2, W, hr, ho.cells.1, ho.row.frozen 0, ⟨?_, ?_, ?_, ho.set0 A2 cap2, (hf.mono (by omega)).of_blocks (by rw [e]; exact Nat.le_refl _) (fun g hg _ => hset _ g (by have := (hf.ab g hg).1; omega)), hP.below (hwW.trans (hbw _)), hP.old, hwW.trans (hbw _), by rw [e]; omega⟩⟩
  · exact (hset _ _ (by omega)).trans (q1.below hW)
  · exact (hset _ _ (by omega)).trans ((hW.block _ (by omega)).trans o1)
  · exact (hset _ _ (by omega)).trans (res.below hW)

/-- At HStep's end. -/
structure HEnd (w W : World) (q : Qu) (A : Option Addr) (cap : Nat) : Prop where
  res : QuAt W (w.heap.size + 1 + 1) Qu.zero none 0
  out : QuAt W (w.heap.size + 1 + 1 + 1) q A cap
  fifo : Fifo (w.heap.size + 4) W A q.has cap
  below : Below w.heap.size w W
theorem HEnd.fin {w W : World} {q : Qu} {A : Option Addr} {cap : Nat} (h : HEnd w W q A cap) : Fifo w.heap.size (W.setRow (w.heap.size + 1 + 1) (q.cells A cap)) A q.has cap ∧ Below w.heap.size w (W.setRow (w.heap.size + 1 + 1) (q.cells A cap)) :=
  ⟨(h.fifo.mono (by omega)).of_blocks (by simp) (fun g hg _ => setRow_other W _ g _ (by have := (h.fifo.ab g hg).1; omega)), h.below.trans (below_setRow _ (by omega))⟩
theorem HS.one {w W : World} {q : Qu} {A : Option Addr} {cap : Nat} {k n : Int} {A2 : Option Addr} {cap2 : Nat} (h : HS w W q A cap k n A2 cap2) {v : Value} (i : Nat) {q' : Qu} {A3 : Option Addr} {cap3 : Nat} (hf : Fifo (w.heap.size + 4) W A3 q'.has cap3)
    (ho : QuAt (W.setCell ⟨w.heap.size + 1 + 1 + 1, i, none⟩ v) (w.heap.size + 1 + 1 + 1) q' A3 cap3) : HEnd w (W.setCell ⟨w.heap.size + 1 + 1 + 1, i, none⟩ v) q' A3 cap3 := by
  have hset : ∀ j, j ≠ w.heap.size + 1 + 1 + 1 → (W.setCell ⟨w.heap.size + 1 + 1 + 1, i, none⟩ v).heap[j]? = W.heap[j]? := fun j hj => heap_setCell_other W ⟨w.heap.size + 1 + 1 + 1, i, none⟩ j v hj
  have e : (W.setCell ⟨w.heap.size + 1 + 1 + 1, i, none⟩ v).heap.size = W.heap.size := by simp [World.setCell]
  have hb := h.below
  exact ⟨(hset _ (by omega)).trans h.res, ho, hf.of_blocks (by rw [e]; exact Nat.le_refl _) (fun g hg _ => hset g (by have := (hf.ab g hg).1; omega)), hb.os, hb.tape, hb.output, by rw [e]; exact hb.size, fun j hj => (hset j (by omega)).trans (hb.block j hj)⟩
theorem HEnd.drew {w W : World} {q : Qu} {A : Option Addr} {cap : Nat} (h : HEnd w W q A cap) : HEnd w W.drew q A cap := ⟨h.res, h.out, h.fifo.below ⟨rfl, rfl, rfl, Nat.le_refl _, fun _ _ => rfl⟩, h.below.drew⟩
theorem cell?_setCell_block (W : World) (a p : Addr) (v : Value) (h : p.block ≠ a.block) : (W.setCell a v).cell? p = W.cell? p := World.cell?_of_block (heap_setCell_other W a p.block v h)
theorem wpList_store_qv {ops : Array Oper} {rest : List Oper} {o : Oper} {a : Act} {w : World} {Q : Exit → Act → World → Prop} (hgd : o.guard = none) (x y : Operand) (ho : o.op = .store 24 x y)
    (g : Nat) (q q0 : Qu) (A A0 : Option Addr) (cap cap0 : Nat) (cs : Array Value) (he : cs = q.cells A cap) (hx : a.eval x = .pointer (some ⟨g, 0, none⟩)) (hy : a.eval y = .agg cs) (hg : QuAt w g q0 A0 cap0)
    (k : wpList Try.prog ops Q rest (a.put o.dst undef) (w.setRow g (q.cells A cap))) : wpList Try.prog ops Q (o :: rest) a w := by
  subst he
  exact wpList_store_qu hgd x y ho g q q0 A A0 cap cap0 hx hy hg k
theorem HS.first {w W : World} {q : Qu} {A : Option Addr} {cap : Nat} {k n : Int} {A2 : Option Addr} {cap2 : Nat} (h : HS w W q A cap k n A2 cap2) (h0 : 0 < q.has.length) :
    ∃ b off x, A = some ⟨b, off, none⟩ ∧ q.has[0]? = some x ∧ W.cell? ⟨b, off + 0, none⟩ = some (.int .i64 x) ∧ b ≠ w.heap.size + 1 + 1 + 1 := by
  obtain ⟨b, off, x, e, hx, hc, _⟩ := h.ints.next (i := 0) h0
  refine ⟨b, off, x, e, hx, hc, ?_⟩
  have := h.old b (by rw [e]; exact ⟨_, rfl, rfl⟩) h0
  omega
theorem HS.add {w W : World} {q : Qu} {A : Option Addr} {cap : Nat} {k n0 : Int} {A2 : Option Addr} {cap2 : Nat} (h : HS w W q A cap k n0 A2 cap2) (n : Int) (hn : (q.has.length + 1) * 8 ≤ 140737488355328) :
    ∃ A7 cap7 V, (∀ ty, (Builtin.append_ #[22, 22] ty #[.slice A2 q.has.length cap2, .slice (some ⟨W.heap.size, 0, none⟩) 1 1]).run Try.prog (W.alloc (.cells #[.int .i64 n] 3)) = .ok (.slice A7 (q.has.length + 1) cap7) V) ∧
      V.cell? ⟨w.heap.size + 1 + 1 + 1, 0, none⟩ = some (.slice A2 q.has.length cap2) ∧ V.frozen? ⟨w.heap.size + 1 + 1 + 1, 0, none⟩ = false ∧
      HEnd w (V.setCell ⟨w.heap.size + 1 + 1 + 1, 0, none⟩ (.slice A7 (q.has.length + 1) cap7)) { q with has := q.has ++ [n] } A7 cap7 := by
  have hz : (W.alloc (.cells #[.int .i64 n] 3)).heap.size = W.heap.size + 1 := by simp
  have hw := h.size
  have hbo : Below W.heap.size W (W.alloc (.cells #[.int .i64 n] 3)) := (Below.refl _ _).alloc (Nat.le_refl _) _
  have hy : IntsIn (W.alloc (.cells #[.int .i64 n] 3)) (some ⟨W.heap.size, 0, none⟩) [n] := ⟨fun _ => ⟨W.heap.size, 0, rfl, by omega, fun j x hx => by
    cases j with
    | zero => simp only [List.getElem?_cons_zero, Option.some.injEq] at hx; subst hx; exact cell_of_row _ _ 0 _ _ _ (heap_alloc_new W _)
    | succ j => simp at hx⟩, by simp⟩
  obtain ⟨A7, cap7, V, hr, hf, hc, hab⟩ := fifo_app (h.fifo.below hbo) hy 1 (by omega) (by simpa using hn)
  have hs := hc.size
  have hkeep : ∀ i, i < W.heap.size → ¬ Ab A2 i → V.heap[i]? = W.heap[i]? := fun i hi h2 => (hc.block i (by omega) h2).trans (hbo.block i hi)
  have hb := h.below
  have hlow : ∀ i, i < w.heap.size + 4 → V.heap[i]? = W.heap[i]? := fun i hi => hkeep i (by omega) (fun hk => by have := (h.fifo.ab _ hk).1; omega)
  have ho : QuAt V (w.heap.size + 1 + 1 + 1) q A2 cap2 := (hlow _ (by omega)).trans h.out
  have hset : ∀ (v : Value) i, i ≠ w.heap.size + 1 + 1 + 1 → (V.setCell ⟨w.heap.size + 1 + 1 + 1, 0, none⟩ v).heap[i]? = V.heap[i]? := fun v i hi => heap_setCell_other V ⟨w.heap.size + 1 + 1 + 1, 0, none⟩ i v hi
  have e : ∀ v, (V.setCell ⟨w.heap.size + 1 + 1 + 1, 0, none⟩ v).heap.size = V.heap.size := fun v => by simp [World.setCell]
  have hnew : ∀ g, Ab A7 g → w.heap.size + 4 ≤ g := fun g hg => by
    rcases hab g hg with ha | ha
    · exact (h.fifo.ab g ha).1
    · omega
  refine ⟨A7, cap7, V, hr, ho.cells.1, ho.row.frozen 0, ⟨?_, ?_, ?_, ?_⟩⟩
  · exact (hset _ _ (by omega)).trans ((hlow _ (by omega)).trans h.res)
  · exact QuAt.of_row (ho.row.set 0 _) (by simp) rfl rfl rfl
  · exact hf.of_blocks (by rw [e]; exact Nat.le_refl _) (fun g hg _ => hset _ g (by have := hnew g hg; omega))
  · exact ⟨hc.os.trans hb.os, hc.tape.trans hb.tape, hc.output.trans hb.output, by rw [e]; have := hb.size; omega, fun i hi => (hset _ i (by omega)).trans ((hlow i (by omega)).trans (hb.block i hi))⟩

set_option maxRecDepth 100000 in
set_option maxHeartbeats 8000000 in
theorem hStep_any {w : World} {q : Qu} {A : Option Addr} (hP : IntsIn w A q.has) (cap : Nat) (hn : q.has.length * 8 ≤ 140737488355328) (k n : Int) :
    Calls Try.prog 9 #[.agg (q.cells A cap), .agg #[.int .i64 k, .int .i64 n]] w (Stepped w.heap.size w (q.step k n)) := by
  obtain ⟨m, hm⟩ : ∃ m, m = (((w.alloc (.cells (q.cells A cap) 24)).alloc (.cells #[.int .i64 k, .int .i64 n] 26)).alloc (.cells (Qu.zero.cells none 0) 24)).alloc (.cells (q.cells A cap) 24) := ⟨_, rfl⟩
  obtain ⟨A2, cap2, W, hrun, hc, hf, hS⟩ := HS.made hP hn hm
  have hms : m.heap.size = w.heap.size + 4 := by rw [hm]; simp
  have hq0 : m.cell? ⟨w.heap.size, 0, none⟩ = some (.slice A q.has.length cap) := by
    have : QuAt m w.heap.size q A cap := by
      rw [hm]
      unfold QuAt
      rw [Below.heap_alloc _ _ _ (by simp <;> omega), Below.heap_alloc _ _ _ (by simp <;> omega), Below.heap_alloc _ _ _ (by simp)]
      exact heap_alloc_new w _
    exact this.cells.1
  have HM : Hid (m = (((w.alloc (.cells #[.slice A q.has.length cap, .int .i64 q.most, .int .i64 q.mb, .int .i64 q.dr] 24)).alloc (.cells #[.int .i64 k, .int .i64 n] 26)).alloc (.cells #[.slice none 0 0, .int .i64 0, .int .i64 0, .int .i64 0] 24)).alloc (.cells #[.slice A q.has.length cap, .int .i64 q.most, .int .i64 q.mb, .int .i64 q.dr] 24)) := Lib.hid hm
  rw [hms] at hrun
  have HR := Lib.hid hrun
  have HSt := Lib.hid hS
  clear hm hrun hS hP
  generalize hD : Stepped w.heap.size w (q.step k n) = D at *
  have HD := Lib.hid hD
  clear hD
  unfold Qu.cells
  go_enter Try.func9, Try.ntmps9
  go_upto_region 3 with fail
  rw [← HM.out]
  go_upto_region 4 with (at_builtin; refine wpList_append_eq rfl (.tmp 12) (.tmp 14) 22 22 rfl rfl rfl (HR.out _) ?_)
  generalize W.setCell ⟨w.heap.size + 1 + 1 + 1, 0, none⟩ (.slice A2 q.has.length cap2) = W3 at *
  have HS : Hid (∀ W, Below W3.heap.size W3 W → (fun W : World => W.cell? ⟨w.heap.size, 0, none⟩ = some (.slice A q.has.length cap) ∧ W.cell? ⟨w.heap.size, 1, none⟩ = some (.int .i64 q.most) ∧ W.cell? ⟨w.heap.size, 2, none⟩ = some (.int .i64 q.mb) ∧ W.cell? ⟨w.heap.size, 3, none⟩ = some (.int .i64 q.dr) ∧ W.cell? ⟨w.heap.size + 1, 1, none⟩ = some (.int .i64 n)) W) := Lib.hid (fun W hW => by
    have h := HSt.out.later hW
    obtain ⟨x0, x1, x2, x3⟩ := h.q1.cells
    exact ⟨x0, x1, x2, x3, cell_of_row _ _ 1 _ _ _ h.o1⟩)
  have hH : ∀ W, Below W3.heap.size W3 W → Calls Try.prog 21 #[.agg #[.slice A q.has.length cap, .int .i64 q.most, .int .i64 q.mb, .int .i64 q.dr]] W fun e w' => e = .returned (.int .i64 (hb q.has)) ∧ Below W.heap.size W w' := fun W hW => hBytes_any (q := q) (HSt.out.later hW).ints cap
  have HH := Lib.hid hH
  clear hH hc hf HM HR hms hq0
  have hw1 : IntKind.i64.wrap ((q.has.length : Int) + 1) = (q.has.length : Int) + 1 := by simp [IntKind.wrap, IntKind.bits, IntKind.signed]; omega
  go_cut [10] (fun v wc => Hid (v = .bool (hfits q n) ∧ Below W3.heap.size W3 wc))
  case first =>
    by_cases c : (q.has.length : Int) + 1 ≤ q.most
    · have HF : Hid (hfits q n = decide (IntKind.i64.wrap (hb q.has + n) ≤ q.mb)) := Lib.hid (by unfold hfits; rw [decide_eq_true c]; rfl)
      generalize hb q.has = G at *
      generalize hfits q n = F at *
      clear HSt HD
      refine wp_region_held_drew (S := (fun W : World => W.cell? ⟨w.heap.size, 0, none⟩ = some (.slice A q.has.length cap) ∧ W.cell? ⟨w.heap.size, 1, none⟩ = some (.int .i64 q.most) ∧ W.cell? ⟨w.heap.size, 2, none⟩ = some (.int .i64 q.mb) ∧ W.cell? ⟨w.heap.size, 3, none⟩ = some (.int .i64 q.dr) ∧ W.cell? ⟨w.heap.size + 1, 1, none⟩ = some (.int .i64 n))) (by kernel_rfl) (HS.out _ (Below.refl _ _).drew) (fun hHeld => ?_)
      obtain ⟨w0, hw0⟩ : ∃ W0, W0 = W3.drew := ⟨_, rfl⟩
      have HB0 : Hid (Below W3.heap.size W3 w0) := Lib.hid (by rw [hw0]; exact (Below.refl _ _).drew)
      rw [← hw0] at hHeld ⊢
      clear hw0
      refine wpAnyH_take (i := 0) (v := ?_) (by simp only [List.getElem?_toArray, List.getElem?_cons_zero] <;> rfl) (by kernel_rfl) (by kernel_rfl) (by kernel_rfl) (by exact fun _ _ _ h => h) (Or.inl ⟨by rfl, ?_⟩) hHeld ?_
      rotate_left
      · intro w hSw; (try dsimp only at hSw); go_simp; (try with_reducible rfl)
      (try simp only [Act.put, List.setIfInBounds_toArray, List.set_cons_zero, List.set_cons_succ])
      refine wpAnyH_take (i := 1) (v := ?_) (by simp only [List.getElem?_toArray, List.getElem?_cons_succ, List.getElem?_cons_zero] <;> rfl) (by kernel_rfl) (by kernel_rfl) (by kernel_rfl) (by exact fun _ _ _ h => h) (Or.inl ⟨by rfl, ?_⟩) hHeld ?_
      rotate_left
      · intro w hSw; (try dsimp only at hSw); go_simp; (try with_reducible rfl)
      (try simp only [Act.put, List.setIfInBounds_toArray, List.set_cons_zero, List.set_cons_succ])
      refine wpAnyH_take (i := 2) (v := ?_) (by simp only [List.getElem?_toArray, List.getElem?_cons_succ, List.getElem?_cons_zero] <;> rfl) (by kernel_rfl) (by kernel_rfl) (by kernel_rfl) (by exact fun _ _ _ h => h) (Or.inl ⟨by rfl, ?_⟩) hHeld ?_
      rotate_left
      · intro w hSw; (try dsimp only at hSw); go_simp; (try with_reducible rfl)
      (try simp only [Act.put, List.setIfInBounds_toArray, List.set_cons_zero, List.set_cons_succ])
      refine wpAnyH_take (i := 3) (v := ?_) (by simp only [List.getElem?_toArray, List.getElem?_cons_succ, List.getElem?_cons_zero] <;> rfl) (by kernel_rfl) (by kernel_rfl) (by kernel_rfl) (by exact fun _ _ _ h => h) (Or.inl ⟨by rfl, ?_⟩) hHeld ?_
      rotate_left
      · intro w hSw; (try dsimp only at hSw); go_simp; (try with_reducible rfl)
      (try simp only [Act.put, List.setIfInBounds_toArray, List.set_cons_zero, List.set_cons_succ])
      refine wpAnyH_take (i := 4) (v := ?_) (by simp only [List.getElem?_toArray, List.getElem?_cons_succ, List.getElem?_cons_zero] <;> rfl) (by kernel_rfl) (by kernel_rfl) (by kernel_rfl) (by exact fun _ _ _ h => h) (Or.inl ⟨by rfl, ?_⟩) hHeld ?_
      rotate_left
      · intro w hSw; (try dsimp only at hSw); go_simp; (try with_reducible rfl)
      (try simp only [Act.put, List.setIfInBounds_toArray, List.set_cons_zero, List.set_cons_succ])
      refine wpAnyH_take (i := 5) (v := ?_) (by simp only [List.getElem?_toArray, List.getElem?_cons_succ, List.getElem?_cons_zero] <;> rfl) (by kernel_rfl) (by kernel_rfl) (by kernel_rfl) (by exact fun _ _ _ h => h) (Or.inl ⟨by rfl, ?_⟩) hHeld ?_
      rotate_left
      · intro w hSw; (try dsimp only at hSw); go_simp; (try with_reducible rfl)
      (try simp only [Act.put, List.setIfInBounds_toArray, List.set_cons_zero, List.set_cons_succ])
      refine wpAnyH_take (i := 6) (v := ?_) (by simp only [List.getElem?_toArray, List.getElem?_cons_succ, List.getElem?_cons_zero] <;> rfl) (by kernel_rfl) (by kernel_rfl) (by kernel_rfl) (by exact fun _ _ _ h => h) (Or.inl ⟨by rfl, ?_⟩) hHeld ?_
      rotate_left
      · intro w hSw; (try dsimp only at hSw); go_simp; (try with_reducible rfl)
      (try simp only [Act.put, List.setIfInBounds_toArray, List.set_cons_zero, List.set_cons_succ])
      refine wpAnyH_take (i := 7) (v := ?_) (by simp only [List.getElem?_toArray, List.getElem?_cons_succ, List.getElem?_cons_zero] <;> rfl) (by kernel_rfl) (by kernel_rfl) (by kernel_rfl) (by exact fun _ _ _ h => h) (Or.inl ⟨by rfl, ?_⟩) hHeld ?_
      rotate_left
      · intro w hSw; (try dsimp only at hSw); go_simp; (try with_reducible rfl)
      (try simp only [Act.put, List.setIfInBounds_toArray, List.set_cons_zero, List.set_cons_succ])
      refine wpAnyH_take (i := 8) (v := ?_) (by simp only [List.getElem?_toArray, List.getElem?_cons_succ, List.getElem?_cons_zero] <;> rfl) (by kernel_rfl) (by kernel_rfl) (by kernel_rfl) (by exact fun _ _ _ h => h) (Or.inl ⟨by rfl, ?_⟩) hHeld ?_
      rotate_left
      · intro w hSw; (try dsimp only at hSw); go_simp; (try with_reducible rfl)
      (try simp only [Act.put, List.setIfInBounds_toArray, List.set_cons_zero, List.set_cons_succ])
      refine wpAnyH_take (i := 10) (v := ?_) (by simp only [List.getElem?_toArray, List.getElem?_cons_succ, List.getElem?_cons_zero] <;> rfl) (by kernel_rfl) (by kernel_rfl) (by kernel_rfl) (by exact fun _ _ _ h => h) (Or.inl ⟨by rfl, ?_⟩) hHeld ?_
      rotate_left
      · intro w hSw; (try dsimp only at hSw); go_simp; (try with_reducible rfl)
      (try simp only [Act.put, List.setIfInBounds_toArray, List.set_cons_zero, List.set_cons_succ])
      refine wpAnyH_take (i := 11) (v := ?_) (by simp only [List.getElem?_toArray, List.getElem?_cons_succ, List.getElem?_cons_zero] <;> rfl) (by kernel_rfl) (by kernel_rfl) (by kernel_rfl) (by exact fun _ _ _ h => h) (Or.inl ⟨by rfl, ?_⟩) hHeld ?_
      rotate_left
      · intro w hSw; (try dsimp only at hSw); go_simp; (try with_reducible rfl)
      (try simp only [Act.put, List.setIfInBounds_toArray, List.set_cons_zero, List.set_cons_succ])
      refine wpAnyH_take (i := 13) (v := ?_) (by simp only [List.getElem?_toArray, List.getElem?_cons_succ, List.getElem?_cons_zero] <;> rfl) (by kernel_rfl) (by kernel_rfl) (by kernel_rfl) (by exact fun _ _ _ h => h) (Or.inl ⟨by rfl, ?_⟩) hHeld ?_
      rotate_left
      · intro w hSw; (try dsimp only at hSw); go_simp; (try with_reducible rfl)
      (try simp only [Act.put, List.setIfInBounds_toArray, List.set_cons_zero, List.set_cons_succ])
      refine wpAnyH_take (i := 14) (v := ?_) (by simp only [List.getElem?_toArray, List.getElem?_cons_succ, List.getElem?_cons_zero] <;> rfl) (by kernel_rfl) (by kernel_rfl) (by kernel_rfl) (by exact fun _ _ _ h => h) (Or.inl ⟨by rfl, ?_⟩) hHeld ?_
      rotate_left
      · intro w hSw; (try dsimp only at hSw); go_simp; (try with_reducible rfl)
      (try simp only [Act.put, List.setIfInBounds_toArray, List.set_cons_zero, List.set_cons_succ])
      refine wpAnyH_ready (rs := [9]) (by kernel_rfl) (by simp) ?_
      refine AllReadyH.cons (by simp only [List.getElem?_toArray, List.getElem?_cons_succ, List.getElem?_cons_zero] <;> rfl) (fun K hK => ?_) AllReadyH.nil
      go_simp
      go_at_call 21
      refine (HH.out _ HB0.out).mono ?_
      rintro e w1 ⟨rfl, hb1⟩
      have HB1 := Lib.hid (HB0.out.trans (hb1.mono HB0.out.size))
      clear hb1
      go_wp2_with fail
      refine hK.out _ _ ?_ (fun hHeld => ?_)
      · exact HS.out _ HB1.out
      clear hK K
      (try simp only [Act.put, List.setIfInBounds_toArray, List.set_cons_zero, List.set_cons_succ])
      refine wpAnyH_take (i := 12) (v := ?_) (by simp only [List.getElem?_toArray, List.getElem?_cons_succ, List.getElem?_cons_zero] <;> rfl) (by kernel_rfl) (by kernel_rfl) (by kernel_rfl) (by exact fun _ _ _ h => h) (Or.inl ⟨by rfl, ?_⟩) hHeld ?_
      rotate_left
      · intro w hSw; (try dsimp only at hSw); go_simp; (try with_reducible rfl)
      (try simp only [Act.put, List.setIfInBounds_toArray, List.set_cons_zero, List.set_cons_succ])
      refine wpAnyH_take (i := 15) (v := ?_) (by simp only [List.getElem?_toArray, List.getElem?_cons_succ, List.getElem?_cons_zero] <;> rfl) (by kernel_rfl) (by kernel_rfl) (by kernel_rfl) (by exact fun _ _ _ h => h) (Or.inl ⟨by rfl, ?_⟩) hHeld ?_
      rotate_left
      · intro w hSw; (try dsimp only at hSw); go_simp; (try with_reducible rfl)
      (try simp only [Act.put, List.setIfInBounds_toArray, List.set_cons_zero, List.set_cons_succ])
      refine wpAnyH_take (i := 16) (v := ?_) (by simp only [List.getElem?_toArray, List.getElem?_cons_succ, List.getElem?_cons_zero] <;> rfl) (by kernel_rfl) (by kernel_rfl) (by kernel_rfl) (by exact fun _ _ _ h => h) (Or.inl ⟨by rfl, ?_⟩) hHeld ?_
      rotate_left
      · intro w hSw; (try dsimp only at hSw); go_simp; (try with_reducible rfl)
      (try simp only [Act.put, List.setIfInBounds_toArray, List.set_cons_zero, List.set_cons_succ])
      refine wpAnyH_take (i := 17) (v := ?_) (by simp only [List.getElem?_toArray, List.getElem?_cons_succ, List.getElem?_cons_zero] <;> rfl) (by kernel_rfl) (by kernel_rfl) (by kernel_rfl) (by exact fun _ _ _ h => h) (Or.inl ⟨by rfl, ?_⟩) hHeld ?_
      rotate_left
      · intro w hSw; (try dsimp only at hSw); go_simp; (try with_reducible rfl)
      (try simp only [Act.put, List.setIfInBounds_toArray, List.set_cons_zero, List.set_cons_succ])
      refine wpAnyH_done (by kernel_rfl) ?_ _
      go_wp2_with fail
      go_meet
      exact Lib.hid ⟨by rw [HF.out], HB1.out⟩
    · have HF : Hid (hfits q n = false) := Lib.hid (by unfold hfits; rw [decide_eq_false c]; rfl)
      have c' : decide ((q.has.length : Int) + 1 ≤ q.most) = false := decide_eq_false c
      clear c
      generalize hb q.has = G at *
      generalize hfits q n = F at *
      clear HSt HD
      refine wp_region_held_drew (S := (fun W : World => W.cell? ⟨w.heap.size, 0, none⟩ = some (.slice A q.has.length cap) ∧ W.cell? ⟨w.heap.size, 1, none⟩ = some (.int .i64 q.most) ∧ W.cell? ⟨w.heap.size, 2, none⟩ = some (.int .i64 q.mb) ∧ W.cell? ⟨w.heap.size, 3, none⟩ = some (.int .i64 q.dr) ∧ W.cell? ⟨w.heap.size + 1, 1, none⟩ = some (.int .i64 n))) (by kernel_rfl) (HS.out _ (Below.refl _ _).drew) (fun hHeld => ?_)
      obtain ⟨w0, hw0⟩ : ∃ W0, W0 = W3.drew := ⟨_, rfl⟩
      have HB0 : Hid (Below W3.heap.size W3 w0) := Lib.hid (by rw [hw0]; exact (Below.refl _ _).drew)
      rw [← hw0] at hHeld ⊢
      clear hw0
      refine wpAnyH_take (i := 0) (v := ?_) (by simp only [List.getElem?_toArray, List.getElem?_cons_zero] <;> rfl) (by kernel_rfl) (by kernel_rfl) (by kernel_rfl) (by exact fun _ _ _ h => h) (Or.inl ⟨by rfl, ?_⟩) hHeld ?_
      rotate_left
      · intro w hSw; (try dsimp only at hSw); go_simp; (try with_reducible rfl)
      (try simp only [Act.put, List.setIfInBounds_toArray, List.set_cons_zero, List.set_cons_succ])
      refine wpAnyH_take (i := 1) (v := ?_) (by simp only [List.getElem?_toArray, List.getElem?_cons_succ, List.getElem?_cons_zero] <;> rfl) (by kernel_rfl) (by kernel_rfl) (by kernel_rfl) (by exact fun _ _ _ h => h) (Or.inl ⟨by rfl, ?_⟩) hHeld ?_
      rotate_left
      · intro w hSw; (try dsimp only at hSw); go_simp; (try with_reducible rfl)
      (try simp only [Act.put, List.setIfInBounds_toArray, List.set_cons_zero, List.set_cons_succ])
      refine wpAnyH_take (i := 2) (v := ?_) (by simp only [List.getElem?_toArray, List.getElem?_cons_succ, List.getElem?_cons_zero] <;> rfl) (by kernel_rfl) (by kernel_rfl) (by kernel_rfl) (by exact fun _ _ _ h => h) (Or.inl ⟨by rfl, ?_⟩) hHeld ?_
      rotate_left
      · intro w hSw; (try dsimp only at hSw); go_simp; (try with_reducible rfl)
      (try simp only [Act.put, List.setIfInBounds_toArray, List.set_cons_zero, List.set_cons_succ])
      refine wpAnyH_take (i := 3) (v := ?_) (by simp only [List.getElem?_toArray, List.getElem?_cons_succ, List.getElem?_cons_zero] <;> rfl) (by kernel_rfl) (by kernel_rfl) (by kernel_rfl) (by exact fun _ _ _ h => h) (Or.inl ⟨by rfl, ?_⟩) hHeld ?_
      rotate_left
      · intro w hSw; (try dsimp only at hSw); go_simp; (try with_reducible rfl)
      (try simp only [Act.put, List.setIfInBounds_toArray, List.set_cons_zero, List.set_cons_succ])
      refine wpAnyH_take (i := 4) (v := ?_) (by simp only [List.getElem?_toArray, List.getElem?_cons_succ, List.getElem?_cons_zero] <;> rfl) (by kernel_rfl) (by kernel_rfl) (by kernel_rfl) (by exact fun _ _ _ h => h) (Or.inl ⟨by rfl, ?_⟩) hHeld ?_
      rotate_left
      · intro w hSw; (try dsimp only at hSw); go_simp; (try with_reducible rfl)
      (try simp only [Act.put, List.setIfInBounds_toArray, List.set_cons_zero, List.set_cons_succ])
      refine wpAnyH_take (i := 5) (v := ?_) (by simp only [List.getElem?_toArray, List.getElem?_cons_succ, List.getElem?_cons_zero] <;> rfl) (by kernel_rfl) (by kernel_rfl) (by kernel_rfl) (by exact fun _ _ _ h => h) (Or.inl ⟨by rfl, ?_⟩) hHeld ?_
      rotate_left
      · intro w hSw; (try dsimp only at hSw); go_simp; (try with_reducible rfl)
      (try simp only [Act.put, List.setIfInBounds_toArray, List.set_cons_zero, List.set_cons_succ])
      refine wpAnyH_take (i := 6) (v := ?_) (by simp only [List.getElem?_toArray, List.getElem?_cons_succ, List.getElem?_cons_zero] <;> rfl) (by kernel_rfl) (by kernel_rfl) (by kernel_rfl) (by exact fun _ _ _ h => h) (Or.inl ⟨by rfl, ?_⟩) hHeld ?_
      rotate_left
      · intro w hSw; (try dsimp only at hSw); go_simp; (try with_reducible rfl)
      (try simp only [Act.put, List.setIfInBounds_toArray, List.set_cons_zero, List.set_cons_succ])
      refine wpAnyH_take (i := 7) (v := ?_) (by simp only [List.getElem?_toArray, List.getElem?_cons_succ, List.getElem?_cons_zero] <;> rfl) (by kernel_rfl) (by kernel_rfl) (by kernel_rfl) (by exact fun _ _ _ h => h) (Or.inl ⟨by rfl, ?_⟩) hHeld ?_
      rotate_left
      · intro w hSw; (try dsimp only at hSw); go_simp; (try with_reducible rfl)
      (try simp only [Act.put, List.setIfInBounds_toArray, List.set_cons_zero, List.set_cons_succ])
      refine wpAnyH_take (i := 8) (v := undef) (by simp only [List.getElem?_toArray, List.getElem?_cons_succ, List.getElem?_cons_zero] <;> rfl) (by kernel_rfl) (by kernel_rfl) (by kernel_rfl) (by exact fun _ _ _ h => h) (Or.inr ⟨by rfl, rfl⟩) hHeld ?_
      (try simp only [Act.put, List.setIfInBounds_toArray, List.set_cons_zero, List.set_cons_succ])
      refine wpAnyH_take (i := 10) (v := undef) (by simp only [List.getElem?_toArray, List.getElem?_cons_succ, List.getElem?_cons_zero] <;> rfl) (by kernel_rfl) (by kernel_rfl) (by kernel_rfl) (by exact fun _ _ _ h => h) (Or.inr ⟨by rfl, rfl⟩) hHeld ?_
      (try simp only [Act.put, List.setIfInBounds_toArray, List.set_cons_zero, List.set_cons_succ])
      refine wpAnyH_take (i := 11) (v := undef) (by simp only [List.getElem?_toArray, List.getElem?_cons_succ, List.getElem?_cons_zero] <;> rfl) (by kernel_rfl) (by kernel_rfl) (by kernel_rfl) (by exact fun _ _ _ h => h) (Or.inr ⟨by rfl, rfl⟩) hHeld ?_
      (try simp only [Act.put, List.setIfInBounds_toArray, List.set_cons_zero, List.set_cons_succ])
      refine wpAnyH_take (i := 13) (v := undef) (by simp only [List.getElem?_toArray, List.getElem?_cons_succ, List.getElem?_cons_zero] <;> rfl) (by kernel_rfl) (by kernel_rfl) (by kernel_rfl) (by exact fun _ _ _ h => h) (Or.inr ⟨by rfl, rfl⟩) hHeld ?_
      (try simp only [Act.put, List.setIfInBounds_toArray, List.set_cons_zero, List.set_cons_succ])
      refine wpAnyH_take (i := 14) (v := undef) (by simp only [List.getElem?_toArray, List.getElem?_cons_succ, List.getElem?_cons_zero] <;> rfl) (by kernel_rfl) (by kernel_rfl) (by kernel_rfl) (by exact fun _ _ _ h => h) (Or.inr ⟨by rfl, rfl⟩) hHeld ?_
      (try simp only [Act.put, List.setIfInBounds_toArray, List.set_cons_zero, List.set_cons_succ])
      refine wpAnyH_ready (rs := [9]) (by kernel_rfl) (by simp) ?_
      refine AllReadyH.cons (by simp only [List.getElem?_toArray, List.getElem?_cons_succ, List.getElem?_cons_zero] <;> rfl) (fun K hK => ?_) AllReadyH.nil
      go_simp
      refine hK.out _ _ ?_ (fun hHeld => ?_)
      · exact hHeld
      clear hK K
      (try simp only [Act.put, List.setIfInBounds_toArray, List.set_cons_zero, List.set_cons_succ])
      refine wpAnyH_take (i := 12) (v := undef) (by simp only [List.getElem?_toArray, List.getElem?_cons_succ, List.getElem?_cons_zero] <;> rfl) (by kernel_rfl) (by kernel_rfl) (by kernel_rfl) (by exact fun _ _ _ h => h) (Or.inr ⟨by rfl, rfl⟩) hHeld ?_
      (try simp only [Act.put, List.setIfInBounds_toArray, List.set_cons_zero, List.set_cons_succ])
      refine wpAnyH_take (i := 15) (v := undef) (by simp only [List.getElem?_toArray, List.getElem?_cons_succ, List.getElem?_cons_zero] <;> rfl) (by kernel_rfl) (by kernel_rfl) (by kernel_rfl) (by exact fun _ _ _ h => h) (Or.inr ⟨by rfl, rfl⟩) hHeld ?_
      (try simp only [Act.put, List.setIfInBounds_toArray, List.set_cons_zero, List.set_cons_succ])
      refine wpAnyH_take (i := 16) (v := ?_) (by simp only [List.getElem?_toArray, List.getElem?_cons_succ, List.getElem?_cons_zero] <;> rfl) (by kernel_rfl) (by kernel_rfl) (by kernel_rfl) (by exact fun _ _ _ h => h) (Or.inl ⟨by rfl, ?_⟩) hHeld ?_
      rotate_left
      · intro w hSw; (try dsimp only at hSw); go_simp; (try with_reducible rfl)
      (try simp only [Act.put, List.setIfInBounds_toArray, List.set_cons_zero, List.set_cons_succ])
      refine wpAnyH_take (i := 17) (v := ?_) (by simp only [List.getElem?_toArray, List.getElem?_cons_succ, List.getElem?_cons_zero] <;> rfl) (by kernel_rfl) (by kernel_rfl) (by kernel_rfl) (by exact fun _ _ _ h => h) (Or.inl ⟨by rfl, ?_⟩) hHeld ?_
      rotate_left
      · intro w hSw; (try dsimp only at hSw); go_simp; (try with_reducible rfl)
      (try simp only [Act.put, List.setIfInBounds_toArray, List.set_cons_zero, List.set_cons_succ])
      refine wpAnyH_done (by kernel_rfl) ?_ _
      go_wp2_with fail
      go_meet
      exact Lib.hid ⟨by rw [HF.out], HB0.out⟩
  case rest =>
    obtain ⟨rfl, hb1⟩ := hcut.out
    have h3 := HSt.out.later hb1
    have hG : Calls Try.prog 11 #[.agg #[.slice A q.has.length cap, .int .i64 q.most, .int .i64 q.mb, .int .i64 q.dr]] wc fun e w' => e = .returned (.bool q.right) ∧ Below wc.heap.size wc w' := hRight_any h3.ints cap
    obtain ⟨x0, x1, x2, x3⟩ := h3.q1.cells
    have HG := Lib.hid hG
    have H3 := Lib.hid h3
    have HLn := Lib.hid hn
    clear hcut HS HH hw1 hn hb1 h3 hG HSt
    obtain ⟨F, hF⟩ : ∃ F, hfits q n = F := ⟨_, rfl⟩
    rw [hF]
    have HF := Lib.hid hF
    clear hF
    go_wp2_with fail
    refine HG.out.mono ?_
    rintro e w6 ⟨rfl, hb6⟩
    have h6 := H3.out.later hb6
    clear x0 x1 x2 x3 HG H3 hb6
    obtain ⟨x0, x1, x2, x3⟩ := h6.q1.cells
    obtain ⟨y0, y1, y2, y3⟩ := h6.out.cells
    have g0 := h6.out.row.frozen 0
    have g3 := h6.out.row.frozen 3
    have d0 := cell_of_row w6 (w.heap.size + 1) 0 _ _ _ h6.o1
    have d1 := cell_of_row w6 (w.heap.size + 1) 1 _ _ _ h6.o1
    simp only [List.getElem?_toArray, List.getElem?_cons_zero, List.getElem?_cons_succ] at d0 d1
    have hl6 : w.heap.size + 1 + 1 + 1 < w6.heap.size := h6.out.lt
    have H6 := Lib.hid h6
    clear h6
    cases hr : q.right with
    | false =>
      have HE : Hid (∀ W, Below w.heap.size w W → D (.returned (.tuple #[.agg (Qu.zero.cells none 0), .int .i64 0, .int .i64 1])) W) := Lib.hid (fun W hW => by
        have e : q.step k n = (Qu.zero, 0, 1) := by unfold Qu.step; rw [hr]; rfl
        rw [← HD.out, e]
        exact ⟨none, 0, rfl, Fifo.nil _ _, hW⟩)
      clear hr HD HF HLn
      go_upto_region 20 with fail
      go_wp2_with (refine wpList_store_qu rfl (.tmp 4) (.tmp 107) rfl (w.heap.size + 1 + 1) Qu.zero Qu.zero none none 0 0 rfl rfl H6.out.res ?_)
      exact bodyPost_ret (results_qu 4 5 6 rfl _ _ rfl (H6.out.res.stored Qu.zero none 0)) rfl (HE.out _ (H6.out.below.trans (below_setRow _ (by omega))))
    | true =>
      have HQ : Hid (q.step k n = if (q.act k n).2.2 = 0 then q.act k n else (Qu.zero, 0, (q.act k n).2.2)) := Lib.hid (by unfold Qu.step; rw [hr]; rfl)
      have ok := Qu.right_iff.1 hr
      by_cases k1 : k = 1
      · subst k1
        have ha : q.act 1 n = q.put n := rfl
        cases hb : bad n with
        | true =>
          have hp : q.put n = (q, 0, 2) := by unfold Qu.put; rw [if_pos hb]
          have HE2 : Hid (q.step 1 n = (Qu.zero, 0, 2)) := Lib.hid (by rw [HQ.out, ha, hp]; rfl)
          by_cases b1 : n < 1
          · have b1' : decide (n < 1) = true := decide_eq_true b1
            have HE : Hid (∀ W, Below w.heap.size w W → D (.returned (.tuple #[.agg (Qu.zero.cells none 0), .int .i64 0, .int .i64 2])) W) := Lib.hid (fun W hW => by
              have e : q.step 1 n = (Qu.zero, 0, 2) := HE2.out
              rw [← HD.out, e]
              exact ⟨none, 0, rfl, Fifo.nil _ _, hW⟩)
            clear hr HD HF HLn HQ ok ha hb hp HE2
            go_upto_region 20 with fail
            go_wp2_with (refine wpList_store_qu rfl (.tmp 4) (.tmp 107) rfl (w.heap.size + 1 + 1) Qu.zero Qu.zero none none 0 0 rfl rfl H6.out.res ?_)
            exact bodyPost_ret (results_qu 4 5 6 rfl _ _ rfl (H6.out.res.stored Qu.zero none 0)) rfl (HE.out _ (H6.out.below.trans (below_setRow _ (by omega))))
          · have b1' : decide (n < 1) = false := decide_eq_false b1
            have b2 : 1500 < n := by
              rcases Int.lt_or_le 1500 n with h | h
              · exact h
              · exact absurd hb (by rw [bad_false.2 ⟨by omega, h⟩]; decide)
            have HE : Hid (∀ W, Below w.heap.size w W → D (.returned (.tuple #[.agg (Qu.zero.cells none 0), .int .i64 0, .int .i64 2])) W) := Lib.hid (fun W hW => by
              have e : q.step 1 n = (Qu.zero, 0, 2) := HE2.out
              rw [← HD.out, e]
              exact ⟨none, 0, rfl, Fifo.nil _ _, hW⟩)
            clear hr HD HF HLn HQ ok ha hb hp HE2 b1
            go_upto_region 20 with fail
            go_wp2_with (refine wpList_store_qu rfl (.tmp 4) (.tmp 107) rfl (w.heap.size + 1 + 1) Qu.zero Qu.zero none none 0 0 rfl rfl H6.out.res ?_)
            exact bodyPost_ret (results_qu 4 5 6 rfl _ _ rfl (H6.out.res.stored Qu.zero none 0)) rfl (HE.out _ (H6.out.below.trans (below_setRow _ (by omega))))
        | false =>
          have hbn := bad_false.1 hb
          have b1' : decide (n < 1) = false := decide_eq_false (by omega)
          have b2 : ¬ 1500 < n := by omega
          have hff : q.fits n = F := by rw [← hfits_eq ok hb]; exact HF.out
          cases F with
          | true =>
            have hp : q.put n = ({ q with has := q.has ++ [n] }, 1, 0) := by unfold Qu.put; rw [if_neg (by rw [hb]; decide), if_pos hff]
            have HZ : Hid (∀ W A7 cap7, Fifo w.heap.size W A7 (q.has ++ [n]) cap7 → Below w.heap.size w W → D (.returned (.tuple #[.agg (Qu.cells { q with has := q.has ++ [n] } A7 cap7), .int .i64 1, .int .i64 0])) W) := Lib.hid (fun W A7 cap7 h1 h2 => by
              rw [← HD.out, HQ.out, ha, hp]
              exact ⟨A7, cap7, rfl, h1, h2⟩)
            obtain ⟨A7, cap7, W, hrun, z0, f0, hV⟩ := H6.out.add n (by have := ok.small; omega)
            have HRn := Lib.hid hrun
            have HC : Hid (#[.slice A7 (q.has.length + 1) cap7, .int .i64 q.most, .int .i64 q.mb, .int .i64 q.dr] = Qu.cells { q with has := q.has ++ [n] } A7 cap7) := Lib.hid (by simp [Qu.cells])
            have HV := Lib.hid hV
            obtain ⟨y0', y1', y2', y3'⟩ := hV.out.cells
            simp only [List.length_append, List.length_singleton] at y0'
            clear hr HD HF HLn HQ ok ha hb hp hff hrun hV hbn
            go_upto_region 20 with (at_builtin; refine wpList_append_eq rfl (.tmp 77) (.tmp 80) 22 22 rfl rfl rfl (HRn.out _) ?_)
            go_wp2_with ((refine wpList_store_qv rfl (.tmp 4) (.tmp 109) rfl (w.heap.size + 1 + 1) { q with has := q.has ++ [n] } Qu.zero A7 none cap7 0 #[.slice A7 (q.has.length + 1) cap7, .int .i64 q.most, .int .i64 q.mb, .int .i64 q.dr] HC.out rfl rfl HV.out.res ?_))
            exact bodyPost_ret (results_qu 4 5 6 rfl _ _ rfl (HV.out.res.stored { q with has := q.has ++ [n] } A7 cap7)) rfl (HZ.out _ _ _ HV.out.fin.1 HV.out.fin.2)
          | false =>
            by_cases hd : q.dr = 1099511627776
            · have hp : q.put n = (q, 0, 4) := by unfold Qu.put; rw [if_neg (by rw [hb]; decide), if_neg (by rw [hff]; decide), if_pos hd]
              have HE2 : Hid (q.step 1 n = (Qu.zero, 0, 4)) := Lib.hid (by rw [HQ.out, ha, hp]; rfl)
              have hd' : (q.dr == 1099511627776) = true := by rw [hd]; rfl
              have HE : Hid (∀ W, Below w.heap.size w W → D (.returned (.tuple #[.agg (Qu.zero.cells none 0), .int .i64 0, .int .i64 4])) W) := Lib.hid (fun W hW => by
                have e : q.step 1 n = (Qu.zero, 0, 4) := HE2.out
                rw [← HD.out, e]
                exact ⟨none, 0, rfl, Fifo.nil _ _, hW⟩)
              clear hr HD HF HLn HQ ok ha hb hp HE2 hff hbn hd
              go_upto_region 20 with fail
              go_wp2_with (refine wpList_store_qu rfl (.tmp 4) (.tmp 107) rfl (w.heap.size + 1 + 1) Qu.zero Qu.zero none none 0 0 rfl rfl H6.out.res ?_)
              exact bodyPost_ret (results_qu 4 5 6 rfl _ _ rfl (H6.out.res.stored Qu.zero none 0)) rfl (HE.out _ (H6.out.below.trans (below_setRow _ (by omega))))
            · have hp : q.put n = ({ q with dr := q.dr + 1 }, 0, 0) := by unfold Qu.put; rw [if_neg (by rw [hb]; decide), if_neg (by rw [hff]; decide), if_neg hd]
              have HZ : Hid (∀ W, HEnd w W { q with dr := q.dr + 1 } A2 cap2 → D (.returned (.tuple #[.agg (Qu.cells { q with dr := q.dr + 1 } A2 cap2), .int .i64 0, .int .i64 0])) (W.setRow (w.heap.size + 1 + 1) (Qu.cells { q with dr := q.dr + 1 } A2 cap2))) := Lib.hid (fun W h => by
                rw [← HD.out, HQ.out, ha, hp]
                exact ⟨A2, cap2, rfl, h.fin.1, h.fin.2⟩)
              have HV := Lib.hid (H6.out.one (v := .int .i64 (q.dr + 1)) 3 (q' := { q with dr := q.dr + 1 }) (A3 := A2) (cap3 := cap2) H6.out.fifo (QuAt.of_row (H6.out.out.row.set 3 _) rfl rfl rfl rfl))
              have hd' : (q.dr == 1099511627776) = false := by simpa using hd
              have e1 := ok.dr.1
              have e2 : q.dr ≤ 1099511627776 := ok.dr.2
              clear hr HD HF HLn HQ ok ha hb hp hff hbn hd
              go_upto_region 20 with fail
              go_wp2_with (refine wpList_store_qv rfl (.tmp 4) (.tmp 109) rfl (w.heap.size + 1 + 1) { q with dr := q.dr + 1 } Qu.zero A2 none cap2 0 #[.slice A2 q.has.length cap2, .int .i64 q.most, .int .i64 q.mb, .int .i64 (q.dr + 1)] rfl rfl rfl HV.out.res ?_)
              exact bodyPost_ret (results_qu 4 5 6 rfl _ _ rfl (HV.out.res.stored { q with dr := q.dr + 1 } A2 cap2)) rfl (HZ.out _ HV.out)
      · have k1' : (k == 1) = false := by simpa using k1
        have k1'' : (k != 1) = true := by simpa using k1
        by_cases k2 : k = 2
        · subst k2
          have ha : q.act 2 n = q.get := rfl
          cases hx : q.has with
          | nil =>
            have hg : q.get = (q, 0, 3) := by unfold Qu.get; rw [hx]
            have HE2 : Hid (q.step 2 n = (Qu.zero, 0, 3)) := Lib.hid (by rw [HQ.out, ha, hg]; rfl)
            rw [hx] at x0 y0
            simp only [List.length_nil] at x0 y0
            have HE : Hid (∀ W, Below w.heap.size w W → D (.returned (.tuple #[.agg (Qu.zero.cells none 0), .int .i64 0, .int .i64 3])) W) := Lib.hid (fun W hW => by
              have e : q.step 2 n = (Qu.zero, 0, 3) := HE2.out
              rw [← HD.out, e]
              exact ⟨none, 0, rfl, Fifo.nil _ _, hW⟩)
            clear hr HD HF HLn HQ ok ha hg HE2 k1 hx
            go_upto_region 20 with fail
            go_wp2_with (refine wpList_store_qu rfl (.tmp 4) (.tmp 107) rfl (w.heap.size + 1 + 1) Qu.zero Qu.zero none none 0 0 rfl rfl H6.out.res ?_)
            exact bodyPost_ret (results_qu 4 5 6 rfl _ _ rfl (H6.out.res.stored Qu.zero none 0)) rfl (HE.out _ (H6.out.below.trans (below_setRow _ (by omega))))
          | cons x r =>
            have hg : q.get = ({ q with has := r }, x, 0) := by unfold Qu.get; rw [hx]
            have l1 : (0 : Int) < ((r.length : Int) + 1) := by omega
            have hbq : w.heap.size + 1 + 1 + 1 ≠ w.heap.size := by omega
            have hel : q.has.length = r.length + 1 := by rw [hx]; rfl
            obtain ⟨bq, oq, xq, rfl, hxq, hat, hno⟩ := H6.out.first (by omega)
            rw [hx] at hxq
            simp only [List.getElem?_cons_zero, Option.some.injEq] at hxq
            subst hxq
            have hfi := H6.out.fifo
            rw [hx] at hfi
            obtain ⟨g2, o2, A3, cap3, rfl, _, hsl, hf3, hab⟩ := hfi.tail_run
            have HZ : Hid (∀ W, HEnd w W { q with has := r } A3 cap3 → D (.returned (.tuple #[.agg (Qu.cells { q with has := r } A3 cap3), .int .i64 x, .int .i64 0])) (W.setRow (w.heap.size + 1 + 1) (Qu.cells { q with has := r } A3 cap3))) := Lib.hid (fun W h => by
              rw [← HD.out, HQ.out, ha, hg]
              exact ⟨A3, cap3, rfl, h.fin.1, h.fin.2⟩)
            have HV := Lib.hid (H6.out.one (v := .slice A3 r.length cap3) 0 (q' := { q with has := r }) (A3 := A3) (cap3 := cap3) hf3 (QuAt.of_row (H6.out.out.row.set 0 _) rfl rfl rfl rfl))
            rw [hel] at x0 y0
            have hbb : bq ≠ w.heap.size + 1 + 1 + 1 := hno
            clear hr HD HF HLn HQ ok ha hg hfi hf3 hab hel k1 hx hno
            go_upto_region 5 with fail
            rw [Nat.add_zero] at hat
            refine wp_region_held_drew (S := (fun W : World => W.cell? ⟨w.heap.size, 0, none⟩ = some (.slice (some ⟨bq, oq, none⟩) (r.length + 1) cap) ∧ W.cell? ⟨bq, oq, none⟩ = some (.int .i64 x))) (by kernel_rfl) ⟨x0, hat⟩ (fun hHeld => ?_)
            refine wpAnyH_take (i := 0) (v := ?_) (by simp only [List.getElem?_toArray, List.getElem?_cons_zero] <;> rfl) (by kernel_rfl) (by kernel_rfl) (by kernel_rfl) (by exact fun _ _ _ h => h) (Or.inl ⟨by rfl, ?_⟩) hHeld ?_
            rotate_left
            · intro w hSw; (try dsimp only at hSw); go_simp; (try with_reducible rfl)
            (try simp only [Act.put, List.setIfInBounds_toArray, List.set_cons_zero, List.set_cons_succ])
            refine wpAnyH_take (i := 1) (v := ?_) (by simp only [List.getElem?_toArray, List.getElem?_cons_succ, List.getElem?_cons_zero] <;> rfl) (by kernel_rfl) (by kernel_rfl) (by kernel_rfl) (by exact fun _ _ _ h => h) (Or.inl ⟨by rfl, ?_⟩) hHeld ?_
            rotate_left
            · intro w hSw; (try dsimp only at hSw); go_simp; (try with_reducible rfl)
            (try simp only [Act.put, List.setIfInBounds_toArray, List.set_cons_zero, List.set_cons_succ])
            refine wpAnyH_take (i := 2) (v := ?_) (by simp only [List.getElem?_toArray, List.getElem?_cons_succ, List.getElem?_cons_zero] <;> rfl) (by kernel_rfl) (by kernel_rfl) (by kernel_rfl) (by exact fun _ _ _ h => h) (Or.inl ⟨by rfl, ?_⟩) hHeld ?_
            rotate_left
            · intro w hSw; (try dsimp only at hSw); go_simp; (try with_reducible rfl)
            (try simp only [Act.put, List.setIfInBounds_toArray, List.set_cons_zero, List.set_cons_succ])
            refine wpAnyH_take (i := 3) (v := ?_) (by simp only [List.getElem?_toArray, List.getElem?_cons_succ, List.getElem?_cons_zero] <;> rfl) (by kernel_rfl) (by kernel_rfl) (by kernel_rfl) (by exact fun _ _ _ h => h) (Or.inl ⟨by rfl, ?_⟩) hHeld ?_
            rotate_left
            · intro w hSw; (try dsimp only at hSw); go_simp; (try with_reducible rfl)
            (try simp only [Act.put, List.setIfInBounds_toArray, List.set_cons_zero, List.set_cons_succ])
            refine wpAnyH_take (i := 4) (v := ?_) (by simp only [List.getElem?_toArray, List.getElem?_cons_succ, List.getElem?_cons_zero] <;> rfl) (by kernel_rfl) (by kernel_rfl) (by kernel_rfl) (by exact fun _ _ _ h => h) (Or.inl ⟨by rfl, ?_⟩) hHeld ?_
            rotate_left
            · intro w hSw; (try dsimp only at hSw); go_simp; (try with_reducible rfl)
            (try simp only [Act.put, List.setIfInBounds_toArray, List.set_cons_zero, List.set_cons_succ])
            refine wpAnyH_take (i := 7) (v := ?_) (by simp only [List.getElem?_toArray, List.getElem?_cons_succ, List.getElem?_cons_zero] <;> rfl) (by kernel_rfl) (by kernel_rfl) (by kernel_rfl) (by exact fun _ _ _ h => h) (Or.inl ⟨by rfl, ?_⟩) hHeld ?_
            rotate_left
            · intro w hSw; (try dsimp only at hSw); go_simp; (try with_reducible rfl)
            (try simp only [Act.put, List.setIfInBounds_toArray, List.set_cons_zero, List.set_cons_succ])
            refine wpAnyH_ready (rs := [5]) (by kernel_rfl) (by simp) ?_
            refine AllReadyH.cons (by simp only [List.getElem?_toArray, List.getElem?_cons_succ, List.getElem?_cons_zero] <;> rfl) (fun K hK => ?_) AllReadyH.nil
            go_simp
            refine hK.out _ _ ?_ (fun hHeld => ?_)
            · exact ⟨x0, hat⟩
            clear hK K
            (try simp only [Act.put, List.setIfInBounds_toArray, List.set_cons_zero, List.set_cons_succ])
            refine wpAnyH_take (i := 6) (v := ?_) (by simp only [List.getElem?_toArray, List.getElem?_cons_succ, List.getElem?_cons_zero] <;> rfl) (by kernel_rfl) (by kernel_rfl) (by kernel_rfl) (by exact fun _ _ _ h => h) (Or.inl ⟨by rfl, ?_⟩) hHeld ?_
            rotate_left
            · intro w hSw; (try dsimp only at hSw); go_simp; (try with_reducible rfl)
            (try simp only [Act.put, List.setIfInBounds_toArray, List.set_cons_zero, List.set_cons_succ])
            refine wpAnyH_take (i := 8) (v := ?_) (by simp only [List.getElem?_toArray, List.getElem?_cons_succ, List.getElem?_cons_zero] <;> rfl) (by kernel_rfl) (by kernel_rfl) (by kernel_rfl) (by exact fun _ _ _ h => h) (Or.inl ⟨by rfl, ?_⟩) hHeld ?_
            rotate_left
            · intro w hSw; (try dsimp only at hSw); go_simp; (try with_reducible rfl)
            (try simp only [Act.put, List.setIfInBounds_toArray, List.set_cons_zero, List.set_cons_succ])
            refine wpAnyH_ready (rs := [9]) (by kernel_rfl) (by simp) ?_
            refine AllReadyH.cons (by simp only [List.getElem?_toArray, List.getElem?_cons_succ, List.getElem?_cons_zero] <;> rfl) (fun K hK => ?_) AllReadyH.nil
            go_simp
            refine hK.out _ _ ?_ (fun hHeld => ?_)
            · exact ⟨(cell?_setCell_block _ _ _ _ (by simp only; omega)).trans x0, (cell?_setCell_block _ _ _ _ (by simp only; omega)).trans hat⟩
            clear hK K hHeld
            refine wpAnyH_done (by kernel_rfl) ?_ _
            generalize hV9 : World.drew _ = V9
            have HV9 : Hid (HEnd w V9 { q with has := r } A3 cap3) := Lib.hid (by rw [← hV9]; exact HV.out.drew)
            obtain ⟨y0', y1', y2', y3'⟩ := HV9.out.out.cells
            dsimp only at y0' y1' y2' y3'
            clear hV9 HV x0 x1 x2 x3 y0 y1 y2 y3 hsl hat
            go_upto_region 20 with fail
            go_wp2_with (refine wpList_store_qv rfl (.tmp 4) (.tmp 109) rfl (w.heap.size + 1 + 1) { q with has := r } Qu.zero A3 none cap3 0 #[.slice A3 r.length cap3, .int .i64 q.most, .int .i64 q.mb, .int .i64 q.dr] rfl rfl rfl HV9.out.res ?_)
            exact bodyPost_ret (results_qu 4 5 6 rfl _ _ rfl (HV9.out.res.stored { q with has := r } A3 cap3)) rfl (HZ.out _ HV9.out)
        · have ha : q.act k n = (q, 0, 5) := by unfold Qu.act; rw [if_neg k1, if_neg k2]
          have k2' : (k != 2) = true := by simpa using k2
          have k2'' : (k == 2) = false := by simpa using k2
          have HE2 : Hid (q.step k n = (Qu.zero, 0, 5)) := Lib.hid (by rw [HQ.out, ha]; rfl)
          have HE : Hid (∀ W, Below w.heap.size w W → D (.returned (.tuple #[.agg (Qu.zero.cells none 0), .int .i64 0, .int .i64 5])) W) := Lib.hid (fun W hW => by
            have e : q.step k n = (Qu.zero, 0, 5) := HE2.out
            rw [← HD.out, e]
            exact ⟨none, 0, rfl, Fifo.nil _ _, hW⟩)
          clear hr HD HF HLn HQ ok ha HE2 k1 k2
          go_upto_region 20 with fail
          go_wp2_with (refine wpList_store_qu rfl (.tmp 4) (.tmp 107) rfl (w.heap.size + 1 + 1) Qu.zero Qu.zero none none 0 0 rfl rfl H6.out.res ?_)
          exact bodyPost_ret (results_qu 4 5 6 rfl _ _ rfl (H6.out.res.stored Qu.zero none 0)) rfl (HE.out _ (H6.out.below.trans (below_setRow _ (by omega))))
end Go.Proofs.Ythjnjfolbhhpnaa
