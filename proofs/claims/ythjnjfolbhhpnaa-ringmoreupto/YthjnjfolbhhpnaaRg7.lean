/- ring.Step. -/
import Derived.Test.YthjnjfolbhhpnaaRg6
import Derived.Deep.OwnRows
namespace Go.Proofs.Ythjnjfolbhhpnaa
open Go.RowKit Go.Maps

/-- Step, plain. -/
def Qu.step (q : Qu) (k n : Int) : Qu × Int × Int :=
  if q.right = true then (if (q.act k n).2.2 = 0 then q.act k n else (Qu.zero, 0, (q.act k n).2.2)) else (Qu.zero, 0, 1)
/-- A queue and a number are the answer; the queue's packets lie in memory of the call's own. -/
def Stepped (B : Nat) (w : World) (r : Qu × Int × Int) (e : Ending) (w' : World) : Prop :=
  ∃ A cap, e = .returned (.tuple #[.agg (r.1.cells A cap), .int .i64 r.2.1, .int .i64 r.2.2]) ∧ Fifo B w' A r.1.has cap ∧ Below w.heap.size w w'

theorem QuAt.row {w : World} {b : Nat} {q : Qu} {A : Option Addr} {cap : Nat} (h : QuAt w b q A cap) : w.rowIs b 24 4 (five (.slice A q.has.length cap) (.int .i64 q.most) (.int .i64 q.mb) (.int .i64 q.dr) undef) :=
  ⟨_, h, rfl, fun i hi => by rcases (by omega : i = 0 ∨ i = 1 ∨ i = 2 ∨ i = 3) with rfl | rfl | rfl | rfl <;> rfl⟩
theorem QuAt.of_row {w : World} {b : Nat} {q : Qu} {A : Option Addr} {cap : Nat} {F : Nat → Value} (h : w.rowIs b 24 4 F) (h0 : F 0 = .slice A q.has.length cap) (h1 : F 1 = .int .i64 q.most) (h2 : F 2 = .int .i64 q.mb) (h3 : F 3 = .int .i64 q.dr) : QuAt w b q A cap := by
  obtain ⟨c, hb, hs, hc⟩ := h
  have e : c = q.cells A cap := by
    apply Array.ext_getElem?
    intro i
    rcases Nat.lt_or_ge i 4 with hi | hi
    · rw [hc i hi]
      rcases (by omega : i = 0 ∨ i = 1 ∨ i = 2 ∨ i = 3) with rfl | rfl | rfl | rfl
      · rw [h0]; rfl
      · rw [h1]; rfl
      · rw [h2]; rfl
      · rw [h3]; rfl
    · rw [Array.getElem?_eq_none (by omega), Array.getElem?_eq_none (by show 4 ≤ i; exact hi)]
  rw [e] at hb
  exact hb
theorem QuAt.set0 {w : World} {b : Nat} {q : Qu} {A : Option Addr} {cap : Nat} (h : QuAt w b q A cap) (A' : Option Addr) (cap' : Nat) : QuAt (w.setCell ⟨b, 0, none⟩ (.slice A' q.has.length cap')) b q A' cap' :=
  QuAt.of_row (h.row.set 0 _) rfl rfl rfl rfl

theorem info_queue : (Try.prog.info? 24).map (·.size) = some 4 := by kernel_rfl
theorem one_queue (q : Qu) (A : Option Addr) (cap : Nat) : ((q.cells A cap).all fun x => x.oneCell') = true := by simp [Qu.cells, Value.oneCell']
theorem QuAt.stored {w : World} {b : Nat} {q : Qu} {A : Option Addr} {cap : Nat} (h : QuAt w b q A cap) (q' : Qu) (A' : Option Addr) (cap' : Nat) : QuAt (w.setRow b (q'.cells A' cap')) b q' A' cap' := setRow_heap w b _ _ _ _ h
theorem wpList_store_qu {ops : Array Oper} {rest : List Oper} {o : Oper} {a : Act} {w : World} {Q : Exit → Act → World → Prop} (hgd : o.guard = none) (x y : Operand) (ho : o.op = .store 24 x y)
    (g : Nat) (q q0 : Qu) (A A0 : Option Addr) (cap cap0 : Nat) (hx : a.eval x = .pointer (some ⟨g, 0, none⟩)) (hy : a.eval y = .agg (q.cells A cap)) (hg : QuAt w g q0 A0 cap0)
    (k : wpList Try.prog ops Q rest (a.put o.dst undef) (w.setRow g (q.cells A cap))) : wpList Try.prog ops Q (o :: rest) a w :=
  wpList_store_row hgd 24 x y ho g (q.cells A cap) hx hy 24 (q0.cells A0 cap0) hg info_queue rfl (one_queue q A cap) k
theorem results_qu {fn : Func} (p u v : Tmp) (h : fn.results = #[.cell p 24, .tmp u, .tmp v]) (tmps : Array Value) (w : World) {g : Nat} {q : Qu} {A : Option Addr} {cap : Nat} (hp : tmps.getD p undef = .pointer (some ⟨g, 0, none⟩)) (hq : QuAt w g q A cap) :
    (results fn tmps).run Try.prog w = .ok (.tuple #[.agg (q.cells A cap), tmps.getD u undef, tmps.getD v undef]) w := by
  have hp' : tmps[p]?.getD undef = .pointer (some ⟨g, 0, none⟩) := by simpa using hp
  simp only [results, h]
  simp [Result.andThen, hp', asAddr, run_loadVar_row w g 24 24 _ _ _ hq Try.underlying24 rfl info_queue]
theorem below_setRow {w : World} {b : Nat} {B : Nat} (cs : Array Value) (h : B ≤ b) : Below B w (w.setRow b cs) := ⟨rfl, rfl, rfl, by simp, fun k hk => setRow_other w b k cs (by omega)⟩

/-- What else holds behind the copy of the packets. -/
theorem step_side {w m w1 w2 : World} {A2 : Option Addr} {xs : List Int} {cap2 : Nat} {k n : Int} (hsz : m.heap.size = w.heap.size + 3) (hb1 : Below m.heap.size m w1) (hb2 : Below w1.heap.size w1 w2) (hf : Fifo w1.heap.size w2 A2 xs cap2)
    (q2 : m.heap[w.heap.size + 1]? = some (.cells #[.int .i64 k, .int .i64 n] 26 (0, 0))) (q3 : QuAt m (w.heap.size + 2) Qu.zero none 0) (v : Value) :
    Fifo (w.heap.size + 3) (w2.setCell ⟨w.heap.size, 0, none⟩ v) A2 xs cap2 ∧ (w2.setCell ⟨w.heap.size, 0, none⟩ v).heap[w.heap.size + 1]? = some (.cells #[.int .i64 k, .int .i64 n] 26 (0, 0)) ∧ QuAt (w2.setCell ⟨w.heap.size, 0, none⟩ v) (w.heap.size + 2) Qu.zero none 0 ∧
      Below w.heap.size m (w2.setCell ⟨w.heap.size, 0, none⟩ v) ∧ w.heap.size + 3 ≤ (w2.setCell ⟨w.heap.size, 0, none⟩ v).heap.size := by
  have s1 := hb1.size
  have s2 := hb2.size
  have e : (w2.setCell ⟨w.heap.size, 0, none⟩ v).heap.size = w2.heap.size := by simp [World.setCell]
  have hset : ∀ i, i ≠ w.heap.size → (w2.setCell ⟨w.heap.size, 0, none⟩ v).heap[i]? = w2.heap[i]? := fun i hi => heap_setCell_other w2 ⟨w.heap.size, 0, none⟩ i v hi
  have hm : ∀ i, i < m.heap.size → i ≠ w.heap.size → (w2.setCell ⟨w.heap.size, 0, none⟩ v).heap[i]? = m.heap[i]? := fun i hi hne => (hset i hne).trans ((hb2.block i (by omega)).trans (hb1.block i hi))
  refine ⟨(hf.mono (by omega)).of_blocks (by omega) (fun g hg _ => hset g (by have := hf.ab g hg; omega)), (hm _ (by omega) (by omega)).trans q2, (hm _ (by omega) (by omega)).trans q3, ⟨hb2.os.trans hb1.os, hb2.tape.trans hb1.tape, hb2.output.trans hb1.output, by omega, fun i hi => hm i (by omega) (by omega)⟩, by omega⟩
theorem line_made {W T : World} {q : Qu} {A : Option Addr} {cap N : Nat} (hf : Fifo (N + 3) W A q.has cap) (_hsz : N + 3 ≤ W.heap.size) (hT : Below W.heap.size W T) (hTs : T.heap.size = W.heap.size) :
    Hid (LineAt N (T.alloc (.cells #[.slice A q.has.length cap, .int .i64 q.most, .int .i64 q.mb, .int .i64 q.dr, .int .i64 (tot q.has)] 45)) W.heap.size q A cap ∧ Below W.heap.size W (T.alloc (.cells #[.slice A q.has.length cap, .int .i64 q.most, .int .i64 q.mb, .int .i64 q.dr, .int .i64 (tot q.has)] 45))) := by
  have hb : Below W.heap.size W (T.alloc (.cells #[.slice A q.has.length cap, .int .i64 q.most, .int .i64 q.mb, .int .i64 q.dr, .int .i64 (tot q.has)] 45)) := hT.alloc hT.size _
  refine Lib.hid ⟨⟨⟨_, by rw [← hTs]; exact heap_alloc_new T _, rfl, fun i hi => ?_⟩, (hf.below hb).mono (by omega), fun hk => ?_⟩, hb⟩
  · rcases (by omega : i = 0 ∨ i = 1 ∨ i = 2 ∨ i = 3 ∨ i = 4) with rfl | rfl | rfl | rfl | rfl <;> rfl
  · have := (hf.ab _ hk).2
    omega

set_option maxRecDepth 100000 in
set_option maxHeartbeats 4000000 in
theorem step_any {w : World} {q : Qu} {A : Option Addr} (hP : IntsIn w A q.has) (cap : Nat) (hnil : A = none → q.has = []) (hn : q.has.length * 8 ≤ 140737488355328) (k n : Int) :
    Calls Try.prog 8 #[.agg (q.cells A cap), .agg #[.int .i64 k, .int .i64 n]] w (Stepped w.heap.size w (q.step k n)) := by
  obtain ⟨m, hm⟩ : ∃ m, m = ((w.alloc (.cells (q.cells A cap) 24)).alloc (.cells #[.int .i64 k, .int .i64 n] 26)).alloc (.cells #[.slice none 0 0, .int .i64 0, .int .i64 0, .int .i64 0] 24) := ⟨_, rfl⟩
  have b1 : Below w.heap.size w (w.alloc (.cells (q.cells A cap) 24)) := (Below.refl _ _).alloc (Nat.le_refl _) _
  have b2 := b1.alloc b1.size (.cells #[.int .i64 k, .int .i64 n] 26)
  have b3 := b2.alloc b2.size (.cells #[.slice none 0 0, .int .i64 0, .int .i64 0, .int .i64 0] 24)
  rw [← hm] at b3
  have hsz : m.heap.size = w.heap.size + 3 := by rw [hm]; simp
  have q1 : QuAt m w.heap.size q A cap := by
    rw [hm]
    unfold QuAt
    rw [Below.heap_alloc _ _ _ (by simp; omega), Below.heap_alloc _ _ _ (by simp)]
    exact heap_alloc_new w _
  have q2 : m.heap[w.heap.size + 1]? = some (.cells #[.int .i64 k, .int .i64 n] 26 (0, 0)) := by
    rw [hm, Below.heap_alloc _ _ _ (by simp)]
    have : w.heap.size + 1 = (w.alloc (.cells (q.cells A cap) 24)).heap.size := by simp
    rw [this]
    exact heap_alloc_new _ _
  have q3 : QuAt m (w.heap.size + 2) Qu.zero none 0 := by
    unfold QuAt
    rw [hm]
    have : w.heap.size + 2 = ((w.alloc (.cells (q.cells A cap) 24)).alloc (.cells #[.int .i64 k, .int .i64 n] 26)).heap.size := by simp
    rw [this]
    exact heap_alloc_new _ _
  have HM := Lib.hid hm
  have HR := Lib.hid (right_any (hP.below b3) cap)
  have e1 : m = ((w.alloc (.cells #[.slice A q.has.length cap, .int .i64 q.most, .int .i64 q.mb, .int .i64 q.dr] 24)).alloc (.cells #[.int .i64 k, .int .i64 n] 26)).alloc (.cells #[.slice none 0 0, .int .i64 0, .int .i64 0, .int .i64 0] 24) := hm
  have E1 := Lib.hid e1
  have Q1 := Lib.hid q1
  have Q2 := Lib.hid q2
  have Q3 := Lib.hid q3
  have HB := Lib.hid b3
  have HSZ := Lib.hid hsz
  clear e1 b1 b2 b3 q1 q2 q3 hm HM hsz
  cases hr : q.right with
  | false =>
    rw [hr] at HR
    have HZ : Hid (∀ W, Below w.heap.size w W → Stepped w.heap.size w (q.step k n) (.returned (.tuple #[.agg #[.slice none 0 0, .int .i64 0, .int .i64 0, .int .i64 0], .int .i64 0, .int .i64 1])) W) := Lib.hid (fun W hW => by
      have e : q.step k n = (Qu.zero, 0, 1) := by unfold Qu.step; rw [hr]; rfl
      rw [e]
      exact ⟨none, 0, rfl, Fifo.nil _ _, hW⟩)
    generalize Stepped w.heap.size w (q.step k n) = D at *
    obtain ⟨c0, c1, c2, c3⟩ := Q1.out.cells
    clear hr
    unfold Qu.cells at HR
    unfold Qu.cells
    go_enter Try.func8, Try.ntmps8
    go_upto_region 1 with fail
    rw [← E1.out]
    go_wp2_with fail
    refine HR.out.mono ?_
    rintro e w1 ⟨rfl, hb⟩
    have HB1 := Lib.hid (HB.out.trans (hb.mono HB.out.size))
    have q3 := (Q3.out.below hb)
    have HQ := Lib.hid q3
    clear q3
    go_wp2_with (refine wpList_store_qu rfl (.tmp 4) (.tmp 13) rfl (w.heap.size + 1 + 1) Qu.zero Qu.zero none none 0 0 rfl rfl HQ.out ?_)
    exact bodyPost_ret (results_qu 4 5 6 rfl _ _ rfl (HQ.out.stored Qu.zero none 0)) rfl (HZ.out _ (HB1.out.trans (below_setRow _ (by omega))))
  | true =>
    rw [hr] at HR
    obtain ⟨c0, c1, c2, c3⟩ := Q1.out.cells
    have HOK := Lib.hid hr
    have HX : Hid (q.step k n = if (q.act k n).2.2 = 0 then q.act k n else (Qu.zero, 0, (q.act k n).2.2)) := Lib.hid (by unfold Qu.step; rw [hr]; rfl)
    clear hr
    unfold Qu.cells at HR
    generalize hD : Stepped w.heap.size w (q.step k n) = D at *
    unfold Qu.cells
    go_enter Try.func8, Try.ntmps8
    go_upto_region 1 with fail
    rw [← E1.out]
    go_wp2_with fail
    refine HR.out.mono ?_
    rintro e w1 ⟨rfl, hb⟩
    have hb' : IntsIn w1 A q.has := (hP.below HB.out).below hb
    have HC := Lib.hid (clone_any hb' cap hnil hn)
    obtain ⟨d0, d1, d2, d3⟩ := (Q1.out.below hb).cells
    clear hb'
    go_wp2_with fail
    refine HC.out.mono ?_
    rintro e w2 ⟨A2, cap2, rfl, hf, hb2⟩
    have q1 := (Q1.out.below hb).below hb2
    have g0 := q1.row.frozen 0
    have c0' := q1.cells.1
    have HF := Lib.hid hf
    have HB2 := Lib.hid (And.intro hb hb2)
    clear hf hb2 hb c0 c1 c2 c3 d0 d1 d2 d3 HC HR
    clear q1
    go_upto_region 4 with fail
    have q1 : QuAt (w2.setCell ⟨w.heap.size, 0, none⟩ (.slice A2 q.has.length cap2)) w.heap.size q A2 cap2 := ((Q1.out.below HB2.out.1).below HB2.out.2).set0 A2 cap2
    have HS3 := Lib.hid (step_side HSZ.out HB2.out.1 HB2.out.2 HF.out Q2.out Q3.out (.slice A2 q.has.length cap2))
    generalize w2.setCell ⟨w.heap.size, 0, none⟩ (.slice A2 q.has.length cap2) = W3 at *
    have hi : ∀ W, Below W3.heap.size W3 W → IntsIn W A2 q.has := fun W hW => (HS3.out.1.ints (by omega)).below hW
    have hs := (Qu.right_iff.1 HOK.out).sizes
    have HT := Lib.hid (fun W (hW : Below W3.heap.size W3 W) => total_any (hi W hW) cap2 hs)
    have HE := Lib.hid (fun T => line_made (T := T) HS3.out.1 HS3.out.2.2.2.2)
    have HS := Lib.hid (fun W (hW : Below W3.heap.size W3 W) => (q1.below hW).cells)
    have hl3 := q1.lt
    clear hi hs q1 g0 c0'
    go_cut [7] (fun v wx => Hid (v = .pointer (some ⟨W3.heap.size, 0, none⟩) ∧ LineAt w.heap.size wx W3.heap.size q A2 cap2 ∧ Below W3.heap.size W3 wx))
    case first =>
      refine wp_region_held_drew (S := (fun W => W.cell? ⟨w.heap.size, 0, none⟩ = some (.slice A2 q.has.length cap2) ∧ W.cell? ⟨w.heap.size, 1, none⟩ = some (.int .i64 q.most) ∧ W.cell? ⟨w.heap.size, 2, none⟩ = some (.int .i64 q.mb) ∧ W.cell? ⟨w.heap.size, 3, none⟩ = some (.int .i64 q.dr))) (by kernel_rfl) (HS.out _ (Below.refl _ _).drew) (fun hHeld => ?_)
      obtain ⟨w0, hw0⟩ : ∃ W0, W0 = W3.drew := ⟨_, rfl⟩
      have HB0 : Hid (Below W3.heap.size W3 w0) := Lib.hid (by rw [hw0]; exact (Below.refl _ _).drew)
      rw [← hw0] at hHeld ⊢
      have HZ0 : Hid (w0.heap.size = W3.heap.size) := Lib.hid (by rw [hw0]; rfl)
      clear hw0
      refine wpAnyH_take (i := 0) (v := ?_) (by simp only [List.getElem?_toArray, List.getElem?_cons_zero] <;> rfl) (by kernel_rfl) (by kernel_rfl) (by kernel_rfl) (by exact fun _ _ _ h => h) (Or.inl ⟨by rfl, ?_⟩) hHeld ?_
      rotate_left
      · intro w hSw; (try dsimp only at hSw); go_simp; (try with_reducible rfl)
      (try simp only [Act.put, List.setIfInBounds_toArray, List.set_cons_zero, List.set_cons_succ])
      refine wpAnyH_take (i := 1) (v := ?_) (by simp only [List.getElem?_toArray, List.getElem?_cons_succ, List.getElem?_cons_zero] <;> rfl) (by kernel_rfl) (by kernel_rfl) (by kernel_rfl) (by exact fun _ _ _ h => h) (Or.inl ⟨by rfl, ?_⟩) hHeld ?_
      rotate_left
      · intro w hSw; (try dsimp only at hSw); go_simp; (try with_reducible rfl)
      (try simp only [Act.put, List.setIfInBounds_toArray, List.set_cons_zero, List.set_cons_succ])
      refine wpAnyH_take (i := 2) (v := ?_) (by simp only [List.getElem?_toArray, List.getElem?_cons_succ, List.getElem?_cons_zero] <;> rfl) (by kernel_rfl) (by kernel_rfl) (by kernel_rfl) (by exact fun _ _ _ h => h) (Or.inl ⟨by rfl, ?_⟩) hHeld ?_
      rotate_left
      · intro w hSw; (try dsimp only at hSw); go_simp; (try with_reducible rfl)
      (try simp only [Act.put, List.setIfInBounds_toArray, List.set_cons_zero, List.set_cons_succ])
      refine wpAnyH_ready (rs := [3, 5]) (by kernel_rfl) (by simp) ?_
      refine AllReadyH.cons (by simp only [List.getElem?_toArray, List.getElem?_cons_succ, List.getElem?_cons_zero] <;> rfl) (fun K hK => ?_) (AllReadyH.cons (by simp only [List.getElem?_toArray, List.getElem?_cons_succ, List.getElem?_cons_zero] <;> rfl) (fun K hK => ?_) AllReadyH.nil)
      · go_simp
        go_at_call 19
        refine (HT.out _ HB0.out).mono ?_
        rintro e w1 ⟨rfl, rfl⟩
        go_wp2_with fail
        refine hK.out _ _ ?_ (fun hHeld => ?_)
        · exact HS.out _ HB0.out
        clear hK K
        (try simp only [Act.put, List.setIfInBounds_toArray, List.set_cons_zero, List.set_cons_succ])
        refine wpAnyH_take (i := 4) (v := ?_) (by simp only [List.getElem?_toArray, List.getElem?_cons_succ, List.getElem?_cons_zero] <;> rfl) (by kernel_rfl) (by kernel_rfl) (by kernel_rfl) (by exact fun _ _ _ h => h) (Or.inl ⟨by rfl, ?_⟩) hHeld ?_
        rotate_left
        · intro w hSw; (try dsimp only at hSw); go_simp; (try with_reducible rfl)
        (try simp only [Act.put, List.setIfInBounds_toArray, List.set_cons_zero, List.set_cons_succ])
        refine wpAnyH_ready (rs := [5]) (by kernel_rfl) (by simp) ?_
        refine AllReadyH.cons (by simp only [List.getElem?_toArray, List.getElem?_cons_succ, List.getElem?_cons_zero] <;> rfl) (fun K hK => ?_) AllReadyH.nil
        go_simp
        refine hK.out _ _ ?_ (fun hHeld => ?_)
        · exact HS.out _ (HB0.out.alloc HB0.out.size _)
        clear hK K
        (try simp only [Act.put, List.setIfInBounds_toArray, List.set_cons_zero, List.set_cons_succ])
        refine wpAnyH_ready (rs := [6]) (by kernel_rfl) (by simp) ?_
        refine AllReadyH.cons (by simp only [List.getElem?_toArray, List.getElem?_cons_succ, List.getElem?_cons_zero] <;> rfl) (fun K hK => ?_) AllReadyH.nil
        go_simp
        refine hK.out _ _ ?_ (fun hHeld => ?_)
        · exact HS.out _ (HB0.out.alloc HB0.out.size _)
        clear hK K hHeld
        refine wpAnyH_done (by kernel_rfl) ?_ _
        go_wp2_with fail
        go_meet
        rw [HZ0.out]
        exact Lib.hid ⟨rfl, (HE.out _ HB0.out HZ0.out).out.1, (HE.out _ HB0.out HZ0.out).out.2⟩
      · go_simp
        refine hK.out _ _ ?_ (fun hHeld => ?_)
        · exact HS.out _ (HB0.out.alloc HB0.out.size _)
        clear hK K
        (try simp only [Act.put, List.setIfInBounds_toArray, List.set_cons_zero, List.set_cons_succ])
        refine wpAnyH_ready (rs := [3]) (by kernel_rfl) (by simp) ?_
        refine AllReadyH.cons (by simp only [List.getElem?_toArray, List.getElem?_cons_succ, List.getElem?_cons_zero] <;> rfl) (fun K hK => ?_) AllReadyH.nil
        go_simp
        go_at_call 19
        refine (HT.out _ (HB0.out.alloc HB0.out.size _)).mono ?_
        rintro e w1 ⟨rfl, rfl⟩
        go_wp2_with fail
        refine hK.out _ _ ?_ (fun hHeld => ?_)
        · exact HS.out _ (HB0.out.alloc HB0.out.size _)
        clear hK K
        (try simp only [Act.put, List.setIfInBounds_toArray, List.set_cons_zero, List.set_cons_succ])
        refine wpAnyH_take (i := 4) (v := ?_) (by simp only [List.getElem?_toArray, List.getElem?_cons_succ, List.getElem?_cons_zero] <;> rfl) (by kernel_rfl) (by kernel_rfl) (by kernel_rfl) (by exact fun _ _ _ h => h) (Or.inl ⟨by rfl, ?_⟩) hHeld ?_
        rotate_left
        · intro w hSw; (try dsimp only at hSw); go_simp; (try with_reducible rfl)
        (try simp only [Act.put, List.setIfInBounds_toArray, List.set_cons_zero, List.set_cons_succ])
        refine wpAnyH_ready (rs := [6]) (by kernel_rfl) (by simp) ?_
        refine AllReadyH.cons (by simp only [List.getElem?_toArray, List.getElem?_cons_succ, List.getElem?_cons_zero] <;> rfl) (fun K hK => ?_) AllReadyH.nil
        go_simp
        refine hK.out _ _ ?_ (fun hHeld => ?_)
        · exact HS.out _ (HB0.out.alloc HB0.out.size _)
        clear hK K hHeld
        refine wpAnyH_done (by kernel_rfl) ?_ _
        go_wp2_with fail
        go_meet
        rw [HZ0.out]
        exact Lib.hid ⟨rfl, (HE.out _ HB0.out HZ0.out).out.1, (HE.out _ HB0.out HZ0.out).out.2⟩
    case rest =>
      obtain ⟨rfl, hL, hb⟩ := hcut.out
      have hq2 : wc.heap[w.heap.size + 1]? = some (.cells #[.int .i64 k, .int .i64 n] 26 (0, 0)) := (hb.block _ (by have := HS3.out.2.2.2.2; omega)).trans HS3.out.2.1
      have d0 := cell_of_row wc (w.heap.size + 1) 0 _ _ _ hq2
      have d1 := cell_of_row wc (w.heap.size + 1) 1 _ _ _ hq2
      have HP := Lib.hid (perform_any hL (Qu.right_iff.1 HOK.out) (by have := HS3.out.2.2.2.2; have := hb.size; omega) k n)
      have HY := Lib.hid hb
      clear hcut HT HE HS HB2 HF HSZ Q1 Q2 Q3 E1 hP hnil hq2 hL hb hn HOK hl3
      generalize q.act k n = R at *
      go_wp2_with fail
      refine HP.out.mono ?_
      rintro e w5 ⟨rfl, A5, cap5, hL5, hA5, hC5⟩
      have HQ3 : Hid (QuAt w5 (w.heap.size + 1 + 1) Qu.zero none 0) := Lib.hid ((hC5.block _ (by have := HS3.out.2.2.2.2; have := HY.out.size; omega) (fun h => by
        rcases h with h | h
        · have := HS3.out.2.2.2.2; omega
        · have := (HS3.out.1.ab _ h).1; omega)).trans (HS3.out.2.2.1.below HY.out))
      have HW : Hid (Below w.heap.size w w5) := Lib.hid (((HB.out.trans HS3.out.2.2.2.1).trans (HY.out.mono (by have := HS3.out.2.2.2.2; omega))).trans (hC5.below (by have := HS3.out.2.2.2.2; have := HY.out.size; omega) (fun i hi => by
        rcases hi with hi | hi
        · have := HS3.out.2.2.2.2; omega
        · have := (HS3.out.1.ab _ hi).1; omega)))
      have HL5 := Lib.hid hL5
      have HN5 : Hid (∀ g, Ab A5 g → g ≠ w.heap.size + 1 + 1) := Lib.hid (fun g hg => by
        rcases hA5 g hg with h | h
        · have := (HS3.out.1.ab _ h).1; omega
        · have := HS3.out.2.2.2.2; have := HY.out.size; omega)
      clear hL5 hA5 hC5 HS3 HY HB HP d0 d1
      obtain ⟨R1, num, er⟩ := R
      dsimp only at *
      by_cases he : er = 0
      · subst he
        obtain ⟨c0, c1, c2, c3⟩ := (And.intro HL5.out.c0 (And.intro HL5.out.c1 (And.intro HL5.out.c2 HL5.out.c3)))
        have hl5 := HL5.out.lt
        have HD : Hid (∀ W, Fifo w.heap.size W A5 R1.has cap5 → Below w.heap.size w W → D (.returned (.tuple #[.agg (R1.cells A5 cap5), .int .i64 num, .int .i64 0])) W) := Lib.hid (fun W hW hB => by
          rw [← hD, HX.out]
          exact ⟨A5, cap5, rfl, hW, hB⟩)
        clear hD HX
        go_wp2_with (refine wpList_store_qu rfl (.tmp 4) (.tmp 33) rfl (w.heap.size + 1 + 1) R1 Qu.zero A5 none cap5 0 rfl rfl HQ3.out ?_)
        exact bodyPost_ret (results_qu 4 5 6 rfl _ _ rfl (HQ3.out.stored R1 A5 cap5)) rfl (HD.out _ (HL5.out.fifo.of_blocks (by simp) (fun g hg _ => setRow_other w5 _ g _ (HN5.out g hg))) (HW.out.trans (below_setRow _ (by omega))))
      · have he' : (er != 0) = true := by simpa using he
        have HD : Hid (∀ W, Below w.heap.size w W → D (.returned (.tuple #[.agg (Qu.zero.cells none 0), .int .i64 0, .int .i64 er])) W) := Lib.hid (fun W hB => by
          rw [← hD, HX.out, if_neg he]
          exact ⟨none, 0, rfl, Fifo.nil _ _, hB⟩)
        clear hD HX he
        go_wp2_with (refine wpList_store_qu rfl (.tmp 4) (.tmp 30) rfl (w.heap.size + 1 + 1) Qu.zero Qu.zero none none 0 0 rfl rfl HQ3.out ?_)
        exact bodyPost_ret (results_qu 4 5 6 rfl _ _ rfl (HQ3.out.stored Qu.zero none 0)) rfl (HD.out _ (HW.out.trans (below_setRow _ (by omega))))
end Go.Proofs.Ythjnjfolbhhpnaa
