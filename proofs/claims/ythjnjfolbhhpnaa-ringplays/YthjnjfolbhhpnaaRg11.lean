/- The reference: HPlay. -/
import Derived.Test.YthjnjfolbhhpnaaRg8
import Derived.Test.YthjnjfolbhhpnaaRg9
namespace Go.Proofs.Ythjnjfolbhhpnaa
open Go.RowKit Go.Maps

/-- Between two rounds of HPlay. -/
structure HInv (w wr : World) (s : Qu × List Int) (R : Option Addr) (cR : Nat) (A : Option Addr) (cap : Nat) : Prop where
  q : QuAt wr (w.heap.size + 1) s.1 A cap
  fifo : Fifo (w.heap.size + 2) wr A s.1.has cap
  outs : Fifo (w.heap.size + 2) wr R s.2 cR
  far : ∀ g, Ab A g → ¬ Ab R g
  res : QuAt wr w.heap.size Qu.zero none 0
  below : Below w.heap.size w wr
  size : w.heap.size + 2 ≤ wr.heap.size
theorem HInv.later {w wr W : World} {s : Qu × List Int} {R : Option Addr} {cR : Nat} {A : Option Addr} {cap : Nat} (h : HInv w wr s R cR A cap) (hb : Below wr.heap.size wr W) : HInv w W s R cR A cap :=
  ⟨h.q.below hb, h.fifo.below hb, h.outs.below hb, h.far, h.res.below hb, h.below.trans (hb.mono (by have := h.size; omega)), Nat.le_trans h.size hb.size⟩
/-- A new queue in the old one's place. -/
theorem HInv.put {w wr : World} {s : Qu × List Int} {R : Option Addr} {cR : Nat} {A : Option Addr} {cap : Nat} (h : HInv w wr s R cR A cap) {B : Nat} {q : Qu} {A' : Option Addr} {cap' : Nat} (hf : Fifo B wr A' q.has cap') (hB : w.heap.size + 2 ≤ B) (hR : ∀ g, Ab R g → g < B) : HInv w (wr.setRow (w.heap.size + 1) (q.cells A' cap')) (q, s.2) R cR A' cap' := by
  have hs : (wr.setRow (w.heap.size + 1) (q.cells A' cap')).heap.size = wr.heap.size := by simp
  have ho : ∀ i, i ≠ w.heap.size + 1 → (wr.setRow (w.heap.size + 1) (q.cells A' cap')).heap[i]? = wr.heap[i]? := fun i hi => setRow_other wr _ i _ hi
  have hb := h.below
  exact ⟨h.q.stored q A' cap', (hf.mono hB).of_blocks (by rw [hs]; exact Nat.le_refl _) (fun g hg _ => ho g (by have := (hf.ab g hg).1; omega)), h.outs.of_blocks (by rw [hs]; exact Nat.le_refl _) (fun g hg _ => ho g (by have := (h.outs.ab g hg).1; omega)),
    fun g hg hr => by have := (hf.ab g hg).1; have := hR g hr; omega, (ho _ (by omega)).trans h.res, ⟨hb.os, hb.tape, hb.output, by rw [hs]; exact hb.size, fun i hi => (ho i (by omega)).trans (hb.block i hi)⟩, by rw [hs]; exact h.size⟩
theorem HInv.add {w w2 : World} {s : Qu} {outs : List Int} {R : Option Addr} {cR : Nat} {A : Option Addr} {cap : Nat} (h : HInv w w2 (s, outs) R cR A cap) (num : Int) (hn : (outs.length + 1) * 8 ≤ 140737488355328) :
    ∃ R' cR' W, (∀ ty, (Builtin.append_ #[22, 22] ty #[.slice R outs.length cR, .slice (some ⟨w2.heap.size, 0, none⟩) 1 1]).run Try.prog (w2.alloc (.cells #[.int .i64 num] 3)) = .ok (.slice R' (outs.length + 1) cR') W) ∧ HInv w W (s, outs ++ [num]) R' cR' A cap := by
  have hz : (w2.alloc (.cells #[.int .i64 num] 3)).heap.size = w2.heap.size + 1 := by simp
  have hw := h.size
  have hbo : Below w2.heap.size w2 (w2.alloc (.cells #[.int .i64 num] 3)) := (Below.refl _ _).alloc (Nat.le_refl _) _
  have hy : IntsIn (w2.alloc (.cells #[.int .i64 num] 3)) (some ⟨w2.heap.size, 0, none⟩) [num] := ⟨fun _ => ⟨w2.heap.size, 0, rfl, by omega, fun j x hx => by
    cases j with
    | zero => simp only [List.getElem?_cons_zero, Option.some.injEq] at hx; subst hx; exact cell_of_row _ _ 0 _ _ _ (heap_alloc_new w2 _)
    | succ j => simp at hx⟩, by simp⟩
  obtain ⟨R', cR', W, hr, hf, hc, hab⟩ := fifo_app (h.outs.below hbo) hy 1 (by omega) (by simpa using hn)
  have hs := hc.size
  have hkeep : ∀ i, i < w2.heap.size → ¬ Ab R i → W.heap[i]? = w2.heap[i]? := fun i hi h2 => (hc.block i (by omega) h2).trans (hbo.block i hi)
  have hlow : ∀ i, i < w.heap.size + 2 → W.heap[i]? = w2.heap[i]? := fun i hi => hkeep i (by omega) (fun hk => by have := (h.outs.ab _ hk).1; omega)
  have hb := h.below
  refine ⟨R', cR', W, hr, ⟨(hlow _ (by omega)).trans h.q, h.fifo.of_blocks (by omega) (fun g hg hl => hkeep g hl (h.far g hg)), hf, fun g hg hR => ?_, (hlow _ (by omega)).trans h.res, ⟨hc.os.trans hb.os, hc.tape.trans hb.tape, hc.output.trans hb.output, by omega, fun i hi => (hlow i (by omega)).trans (hb.block i hi)⟩, by omega⟩⟩
  rcases hab g hR with ha | ha
  · exact h.far g hg ha
  · have := (h.fifo.ab g hg).2; omega
theorem step_ok {q : Qu} (ok : q.Ok) (k n : Int) : q.step k n = if (q.act k n).2.2 = 0 then q.act k n else (Qu.zero, 0, (q.act k n).2.2) := by
  unfold Qu.step
  rw [if_pos (Qu.right_iff.2 ok)]

set_option maxRecDepth 100000 in
set_option maxHeartbeats 8000000 in
theorem hPlay_any {w : World} {A : Option Addr} {os : List (Int × Int)} {n : Nat} (hO : OpsIn w A os) (hn : os.length = n) (cap : Nat) (most mb : Int) :
    Calls Try.prog 14 #[.int .i64 most, .int .i64 mb, .slice A n cap] w (Played w (played most mb os)) := by
  obtain ⟨m, hm⟩ : ∃ m, m = (w.alloc (.cells #[.slice none 0 0, .int .i64 0, .int .i64 0, .int .i64 0] 24)).alloc (.cells #[.slice none 0 0, .int .i64 most, .int .i64 mb, .int .i64 0] 24) := ⟨_, rfl⟩
  have b1 : Below w.heap.size w (w.alloc (.cells #[.slice none 0 0, .int .i64 0, .int .i64 0, .int .i64 0] 24)) := (Below.refl _ _).alloc (Nat.le_refl _) _
  have b2 := b1.alloc b1.size (.cells #[.slice none 0 0, .int .i64 most, .int .i64 mb, .int .i64 0] 24)
  rw [← hm] at b2
  have hsz : m.heap.size = w.heap.size + 2 := by rw [hm]; simp
  have q1 : QuAt m w.heap.size Qu.zero none 0 := by
    rw [hm]
    unfold QuAt
    rw [Below.heap_alloc _ _ _ (by simp)]
    exact heap_alloc_new w _
  have l1 : QuAt m (w.heap.size + 1) (Qu.start most mb) none 0 := by
    unfold QuAt
    rw [hm]
    have : w.heap.size + 1 = (w.alloc (.cells #[.slice none 0 0, .int .i64 0, .int .i64 0, .int .i64 0] 24)).heap.size := by simp
    rw [this]
    exact heap_alloc_new _ _
  have hlen := hO.len
  rw [hn] at hlen
  have HR := Lib.hid (hRight_any (q := Qu.start most mb) (A := none) (w := m) ⟨fun h => absurd h (by simp [Qu.start]), by simp [Qu.start]⟩ 0)
  have HO := Lib.hid hO
  have HM := Lib.hid hm
  have HN := Lib.hid hn
  have HQ := Lib.hid (And.intro q1 (And.intro l1 (And.intro b2 hsz)))
  obtain ⟨c0, c1, c2, c3⟩ := l1.cells
  clear b1 b2 q1 l1 hsz hm hO hn
  cases hr : (Qu.start most mb).right with
  | false =>
    rw [hr] at HR
    have HD : Hid (∀ W, Below w.heap.size w W → Played w (played most mb os) (.returned (.tuple #[.slice none 0 0, .agg (Qu.zero.cells none 0), .int .i64 2])) W) := Lib.hid (fun W hW => by
      have e : played most mb os = ([], Qu.zero, 2) := by unfold played; rw [hr]; rfl
      rw [e]
      exact ⟨none, 0, none, 0, rfl, Fifo.nil _ _, Fifo.nil _ _, hW⟩)
    generalize Played w (played most mb os) = D at *
    clear hr
    go_enter Try.func14, Try.ntmps14
    go_upto_region 2 with fail
    rw [← HM.out]
    go_wp2_with fail
    refine HR.out.mono ?_
    rintro e w1 ⟨rfl, hb⟩
    have HQ1 := Lib.hid (HQ.out.1.below hb)
    have HB1 := Lib.hid (HQ.out.2.2.1.trans (hb.mono HQ.out.2.2.1.size))
    clear hb HR c0 c1 c2 c3
    go_wp2_with (refine wpList_store_qu rfl (.tmp 7) (.tmp 22) rfl w.heap.size Qu.zero Qu.zero none none 0 0 rfl rfl HQ1.out ?_)
    exact bodyPost_ret (results_qm 7 6 8 rfl _ _ rfl (HQ1.out.stored Qu.zero none 0)) rfl (HD.out _ (HB1.out.trans (below_setRow _ (Nat.le_refl _))))
  | true =>
    rw [hr] at HR
    have HD : Hid (∀ W R cR A cap, Fifo w.heap.size W R (plays most mb os).2 cR → Fifo w.heap.size W A (plays most mb os).1.has cap → Below w.heap.size w W → Played w (played most mb os) (.returned (.tuple #[.slice R (plays most mb os).2.length cR, .agg ((plays most mb os).1.cells A cap), .int .i64 0])) W) := Lib.hid (fun W R cR A cap h1 h2 hW => by
      have e : played most mb os = ((plays most mb os).2, (plays most mb os).1, 0) := by unfold played; rw [if_pos hr]
      rw [e]
      exact ⟨R, cR, A, cap, rfl, h1, h2, hW⟩)
    generalize Played w (played most mb os) = D at *
    have HK := Lib.hid (fun i => plays_ok hr (os.take i))
    clear hr
    go_enter Try.func14, Try.ntmps14
    go_upto_region 2 with fail
    rw [← HM.out]
    go_wp2_with fail
    refine HR.out.mono ?_
    rintro e w1 ⟨rfl, hb⟩
    have HI : Hid (HInv w w1 (plays most mb (os.take 0)) none 0 none 0) := Lib.hid ⟨HQ.out.2.1.below hb, Fifo.nil _ _, Fifo.nil _ _, fun g hg => by (obtain ⟨a, e, _⟩ := hg; cases e), HQ.out.1.below hb, HQ.out.2.2.1.trans (hb.mono HQ.out.2.2.1.size), by have := hb.size; have := HQ.out.2.2.2; omega⟩
    clear hb HR c0 c1 c2 c3 HM HQ
    go_wp2_with fail
    go_loopg [10, 25] n (fun k v c wr => ∃ i : Nat, c = .int .i64 (i : Int) ∧ i + k = n ∧ ∃ R cR A' cap', v = .slice R (plays most mb (os.take i)).2.length cR ∧ Hid (HInv w wr (plays most mb (os.take i)) R cR A' cap'))
    case atStart => exact ⟨0, rfl, by omega, none, 0, none, 0, rfl, HI⟩
    case round =>
      clear HI
      obtain ⟨i, rfl, hik, R, cR, A', cap', rfl, HI⟩ := hrel
      cases gk with
      | zero =>
        obtain rfl : i = n := by omega
        have he : os.take i = os := List.take_of_length_le (by have := HN.out; omega)
        rw [he] at HI ⊢
        obtain ⟨c0, c1, c2, c3⟩ := HI.out.q.cells
        clear he HK HO HN
        go_wp2_with fail
        have HS : Hid (∀ W : World, W.heap[w.heap.size + 1]? = wr.heap[w.heap.size + 1]? → (fun W : World => W.cell? ⟨w.heap.size + 1, 0, none⟩ = some (.slice A' (plays most mb os).1.has.length cap') ∧ W.cell? ⟨w.heap.size + 1, 1, none⟩ = some (.int .i64 (plays most mb os).1.most) ∧ W.cell? ⟨w.heap.size + 1, 2, none⟩ = some (.int .i64 (plays most mb os).1.mb) ∧ W.cell? ⟨w.heap.size + 1, 3, none⟩ = some (.int .i64 (plays most mb os).1.dr)) W) := Lib.hid (fun W hW => by
          have hr := HI.out.q.row.of_block hW
          exact ⟨hr.cell (by omega), hr.cell (by omega), hr.cell (by omega), hr.cell (by omega)⟩)
        refine wp_region_held_drew (S := (fun W : World => W.cell? ⟨w.heap.size + 1, 0, none⟩ = some (.slice A' (plays most mb os).1.has.length cap') ∧ W.cell? ⟨w.heap.size + 1, 1, none⟩ = some (.int .i64 (plays most mb os).1.most) ∧ W.cell? ⟨w.heap.size + 1, 2, none⟩ = some (.int .i64 (plays most mb os).1.mb) ∧ W.cell? ⟨w.heap.size + 1, 3, none⟩ = some (.int .i64 (plays most mb os).1.dr))) (by kernel_rfl) (HS.out _ rfl) (fun hHeld => ?_)
        refine wpAnyH_take (i := 0) (v := ?_) (by simp only [List.getElem?_toArray, List.getElem?_cons_zero] <;> rfl) (by kernel_rfl) (by kernel_rfl) (by kernel_rfl) (by exact fun _ _ _ h => h) (Or.inl ⟨by rfl, ?_⟩) hHeld ?_
        rotate_left
        · intro w hSw; (try dsimp only at hSw); go_simp; (try with_reducible rfl)
        (try simp only [Act.put, List.setIfInBounds_toArray, List.set_cons_zero, List.set_cons_succ])
        refine wpAnyH_take (i := 1) (v := ?_) (by simp only [List.getElem?_toArray, List.getElem?_cons_succ, List.getElem?_cons_zero] <;> rfl) (by kernel_rfl) (by kernel_rfl) (by kernel_rfl) (by exact fun _ _ _ h => h) (Or.inl ⟨by rfl, ?_⟩) hHeld ?_
        rotate_left
        · intro w hSw; (try dsimp only at hSw); go_simp; (try with_reducible rfl)
        (try simp only [Act.put, List.setIfInBounds_toArray, List.set_cons_zero, List.set_cons_succ])
        refine wpAnyH_take (i := 2) (v := ?_) (by simp only [List.getElem?_toArray, List.getElem?_cons_succ, List.getElem?_cons_zero] <;> rfl) (by kernel_rfl) (by kernel_rfl) (by kernel_rfl) (by exact fun _ _ _ h => h) (Or.inl ⟨by rfl, ?_⟩) hHeld ?_
        rotate_left
        · intro w hSw; (try dsimp only at hSw); go_simp; (try with_reducible rfl)
        (try simp only [Act.put, List.setIfInBounds_toArray, List.set_cons_zero, List.set_cons_succ])
        refine wpAnyH_ready (rs := [3]) (by kernel_rfl) (by simp) ?_
        refine AllReadyH.cons (by simp only [List.getElem?_toArray, List.getElem?_cons_succ, List.getElem?_cons_zero] <;> rfl) (fun K hK => ?_) AllReadyH.nil
        rw [if_pos (by rfl)]
        refine wp_store_qu (.tmp 7) (.tmp 48) rfl w.heap.size (plays most mb os).1 Qu.zero A' none cap' 0 rfl rfl HI.out.res ?_
        refine hK.out _ _ ?_ (fun hHeld => ?_)
        · exact HS.out _ (setRow_other wr _ _ _ (by omega))
        clear hK K
        (try simp only [Act.put])
        refine wpAnyH_take (i := 4) (v := ?_) (by simp only [List.getElem?_toArray, List.getElem?_cons_succ, List.getElem?_cons_zero] <;> rfl) (by kernel_rfl) (by kernel_rfl) (by kernel_rfl) (by exact fun _ _ _ h => h) (Or.inl ⟨by rfl, ?_⟩) hHeld ?_
        rotate_left
        · intro w hSw; (try dsimp only at hSw); go_simp; (try with_reducible rfl)
        (try simp only [Act.put, List.setIfInBounds_toArray, List.set_cons_zero, List.set_cons_succ])
        refine wpAnyH_done (by kernel_rfl) ?_ _
        go_wp2_with fail
        have hA : ∀ g, Ab A' g → g ≠ w.heap.size := fun g hg => by have := (HI.out.fifo.ab g hg).1; omega
        have hR : ∀ g, Ab R g → g ≠ w.heap.size := fun g hg => by have := (HI.out.outs.ab g hg).1; omega
        exact bodyPost_ret (results_qm 7 6 8 rfl _ _ rfl (HI.out.res.stored (plays most mb os).1 A' cap')) rfl (HD.out _ _ _ _ _ ((HI.out.outs.mono (by omega)).of_blocks (by simp) (fun g hg _ => setRow_other wr _ g _ (hR g hg))) ((HI.out.fifo.mono (by omega)).of_blocks (by simp) (fun g hg _ => setRow_other wr _ g _ (hA g hg))) (HI.out.below.drew.trans (below_setRow _ (Nat.le_refl _))))
      | succ k =>
        have hi : i < n := by omega
        have i1 : (i : Int) < (n : Int) := by omega
        have hOw := HO.out.below HI.out.below
        obtain ⟨b, off, kd, x, rfl, hx, hk0, hk1, hbl⟩ := hOw.next (i := i) (by have := HN.out; omega)
        have HX := Lib.hid hx
        have bo : Below wr.heap.size wr (wr.alloc (.cells #[.int .i64 kd, .int .i64 x] 26)) := (Below.refl _ _).alloc (Nat.le_refl _) _
        have HI1 := Lib.hid (HI.out.later bo)
        have hsm := (HK.out i).small
        have HP := Lib.hid (hStep_any (HI1.out.fifo.ints (by omega)) cap' (by omega) kd x)
        have HT := Lib.hid (step_ok (HK.out i) kd x)
        have HE := Lib.hid (show plays most mb (os.take (i + 1)) = (((plays most mb (os.take i)).1.act kd x).1, if ((plays most mb (os.take i)).1.act kd x).2.2 = 0 ∧ kd = 2 then (plays most mb (os.take i)).2 ++ [((plays most mb (os.take i)).1.act kd x).2.1] else (plays most mb (os.take i)).2) from plays_snoc hx)
        have HF := Lib.hid (fun h => act_err (q := (plays most mb (os.take i)).1) (k := kd) (n := x) h)
        have HL := Lib.hid (Nat.le_trans (plays_len most mb (os.take i)) (by rw [List.length_take]; exact Nat.min_le_left _ _))
        have HO1 : Hid ((wr.alloc (.cells #[.int .i64 kd, .int .i64 x] 26)).heap[wr.heap.size]? = some (.cells #[.int .i64 kd, .int .i64 x] 26 (0, 0))) := Lib.hid (heap_alloc_new wr _)
        obtain ⟨c0, c1, c2, c3⟩ := HI.out.q.cells
        have HSZ := Lib.hid (show (wr.alloc (.cells #[.int .i64 kd, .int .i64 x] 26)).heap.size = wr.heap.size + 1 by simp)
        have hqb : w.heap.size + 1 < wr.heap.size := HI.out.q.lt
        clear hOw hx bo HD HI hsm
        generalize plays most mb (os.take i) = st at *
        obtain ⟨st1, outs⟩ := st
        dsimp only at *
        generalize hX : st1.act kd x = X at *
        generalize st1.step kd x = Y at *
        obtain ⟨X1, num, er⟩ := X
        unfold Qu.cells at HP
        dsimp only at *
        clear hX
        go_wp2_with fail
        refine HP.out.mono ?_
        intro e w2 hd
        obtain ⟨A3, cap3, rfl, hf3, hb3⟩ := hd
        have HI2 := Lib.hid (HI1.out.later hb3)
        have h2s : wr.heap.size < w2.heap.size := by have := hb3.size; have := HSZ.out; omega
        have hkd : w2.heap[wr.heap.size]? = some (.cells #[.int .i64 kd, .int .i64 x] 26 (0, 0)) := (hb3.block _ (by have := HSZ.out; omega)).trans HO1.out
        have HF3 := Lib.hid hf3
        have hbp : Below w2.heap.size w2 (w2.alloc (.cells (Y.1.cells A3 cap3) 24)) := (Below.refl _ _).alloc (Nat.le_refl _) _
        have HI3 := Lib.hid (HI2.out.later hbp)
        have HF4 := Lib.hid (hf3.below hbp)
        have hk3 : (w2.alloc (.cells (Y.1.cells A3 cap3) 24)).heap[wr.heap.size]? = _ := (hbp.block _ h2s).trans hkd
        have HK3 := Lib.hid hk3
        have HP3 : Hid (QuAt (w2.alloc (.cells (Y.1.cells A3 cap3) 24)) w2.heap.size Y.1 A3 cap3) := Lib.hid (QuAt.new w2 Y.1 A3 cap3)
        have hRB : ∀ g, Ab R g → g < (wr.alloc (.cells #[.int .i64 kd, .int .i64 x] 26)).heap.size := fun g hg => (HI1.out.outs.ab g hg).2
        have HRB := Lib.hid hRB
        have HSB := Lib.hid (show w.heap.size + 2 ≤ (wr.alloc (.cells #[.int .i64 kd, .int .i64 x] 26)).heap.size from HI1.out.size)
        clear hf3 hb3 hkd hbp hk3 hRB HI1 HI2 HF3 HP HO1 c0 c1 c2 c3 h2s
        by_cases he : er = 0
        · subst he
          have hY : Y = (X1, num, 0) := HT.out
          subst hY
          have HI4 := Lib.hid (HI3.out.put HF4.out HSB.out HRB.out)
          obtain ⟨p0, p1, p2, p3⟩ := HP3.out.cells
          have hk4 : ((w2.alloc (.cells (X1.cells A3 cap3) 24)).setRow (w.heap.size + 1) (X1.cells A3 cap3)).heap[wr.heap.size]? = some (.cells #[.int .i64 kd, .int .i64 x] 26 (0, 0)) := (setRow_other _ _ _ _ (by omega)).trans HK3.out
          have d0 := cell_of_row _ _ 0 _ _ _ hk4
          have HQ4 := Lib.hid HI3.out.q
          clear hk4 HT HF HI3 HF4 HK3 HP3 HRB HSB
          dsimp only at *
          obtain ⟨w3, hw3⟩ : ∃ W, W = w2.alloc (.cells (X1.cells A3 cap3) 24) := ⟨_, rfl⟩
          rw [← hw3] at HI4 d0 p0 p1 p2 p3 HQ4
          unfold Qu.cells
          go_upto_region 10 with fail
          rw [show w2.alloc (.cells #[.slice A3 X1.has.length cap3, .int .i64 X1.most, .int .i64 X1.mb, .int .i64 X1.dr] 24) = w3 from hw3.symm]
          clear hw3
          go_upto_region 11 with (refine wpList_store_qu rfl (.tmp 9) (.tmp 38) rfl (w.heap.size + 1) X1 st1 A3 A' cap3 cap' rfl rfl HQ4.out ?_)
          generalize w3.setRow (w.heap.size + 1) (X1.cells A3 cap3) = w4 at *
          clear p0 p1 p2 p3 HQ4
          by_cases c : kd = 2
          · subst c
            obtain ⟨R', cR', W, hrun, hI'⟩ := HI4.out.add num (by have := HL.out; omega)
            have HRn := Lib.hid hrun
            have HV : Hid (Value.slice R' (outs.length + 1) cR' = .slice R' (plays most mb (os.take (i + 1))).2.length cR' ∧ HInv w W (plays most mb (os.take (i + 1))) R' cR' A3 cap3) := Lib.hid (by
              rw [HE.out, if_pos ⟨rfl, rfl⟩]
              exact ⟨by rw [List.length_append]; rfl, hI'⟩)
            clear hrun hI' HI4 HE
            go_wp2_with (at_builtin; refine wpList_append_eq rfl (.tmp 42) (.tmp 44) 22 22 rfl rfl rfl (HRn.out _) ?_)
            go_roundg k
            case measure => omega
            case rel => exact ⟨i + 1, by go_num, by omega, R', cR', A3, cap3, HV.out.1, Lib.hid HV.out.2⟩
          · have c2 : (kd == 2) = false := by simpa using c
            have HV : Hid (Value.slice R outs.length cR = .slice R (plays most mb (os.take (i + 1))).2.length cR ∧ HInv w w4 (plays most mb (os.take (i + 1))) R cR A3 cap3) := Lib.hid (by
              rw [HE.out, if_neg (fun h => c h.2)]
              exact ⟨rfl, HI4.out⟩)
            clear c HI4 HE
            go_wp2_with fail
            go_roundg k
            case measure => omega
            case rel => exact ⟨i + 1, by go_num, by omega, R, cR, A3, cap3, HV.out.1, Lib.hid HV.out.2⟩
        · have hY : Y = (Qu.zero, 0, er) := by have := HT.out; rwa [if_neg he] at this
          subst hY
          have he' : (er == 0) = false := by simpa using he
          have hX1 : X1 = st1 := HF.out he
          have HV : Hid (Value.slice R outs.length cR = .slice R (plays most mb (os.take (i + 1))).2.length cR ∧ HInv w (w2.alloc (.cells (Qu.zero.cells A3 cap3) 24)) (plays most mb (os.take (i + 1))) R cR A' cap') := Lib.hid (by
            rw [HE.out, if_neg (fun h => he h.1), hX1]
            exact ⟨rfl, HI3.out⟩)
          clear HI3 HF4 HK3 HP3 HRB HSB HT HF hX1 HE he
          unfold Qu.cells
          go_wp2_with fail
          go_roundg k
          case measure => omega
          case rel => exact ⟨i + 1, by go_num, by omega, R, cR, A', cap', HV.out.1, Lib.hid HV.out.2⟩
end Go.Proofs.Ythjnjfolbhhpnaa
