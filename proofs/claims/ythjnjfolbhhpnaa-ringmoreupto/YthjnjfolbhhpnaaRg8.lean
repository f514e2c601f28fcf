/- ring.Play. -/
import Derived.Test.YthjnjfolbhhpnaaRg7
import Derived.Test.YthjnjfolbhhpnaaRgPlay
namespace Go.Proofs.Ythjnjfolbhhpnaa
open Go.RowKit Go.Maps

/-- Operations lie in memory. -/
structure OpsIn (w : World) (A : Option Addr) (os : List (Int × Int)) : Prop where
  at_ : 0 < os.length → ∃ b off, A = some ⟨b, off, none⟩ ∧ b < w.heap.size ∧ ∀ j o, os[j]? = some o → w.cell? ⟨b, off + j * 2, none⟩ = some (.int .i64 o.1) ∧ w.cell? ⟨b, off + j * 2 + 1, none⟩ = some (.int .i64 o.2)
  len : os.length * 16 ≤ 140737488355328
theorem OpsIn.below {w w' : World} {A : Option Addr} {os : List (Int × Int)} (h : OpsIn w A os) (hb : Below w.heap.size w w') : OpsIn w' A os := by
  refine ⟨fun h0 => ?_, h.len⟩
  obtain ⟨b, off, e, hl, hc⟩ := h.at_ h0
  exact ⟨b, off, e, Nat.lt_of_lt_of_le hl hb.size, fun j o ho => ⟨(hb.cell (p := ⟨b, off + j * 2, none⟩) hl).trans (hc j o ho).1, (hb.cell (p := ⟨b, off + j * 2 + 1, none⟩) hl).trans (hc j o ho).2⟩⟩
theorem OpsIn.next {w : World} {A : Option Addr} {os : List (Int × Int)} (h : OpsIn w A os) {i : Nat} (hi : i < os.length) : ∃ b off k n, A = some ⟨b, off, none⟩ ∧ os[i]? = some (k, n) ∧ w.cell? ⟨b, off + i * 2, none⟩ = some (.int .i64 k) ∧ w.cell? ⟨b, off + i * 2 + 1, none⟩ = some (.int .i64 n) ∧ b < w.heap.size := by
  obtain ⟨b, off, e, hl, hc⟩ := h.at_ (by omega)
  have ho := hc i _ (List.getElem?_eq_getElem hi)
  exact ⟨b, off, os[i].1, os[i].2, e, List.getElem?_eq_getElem hi, ho.1, ho.2, hl⟩

/-- What Play answers: numbers and a queue, each in memory of the call's own. -/
def Played (w : World) (r : List Int × Qu × Int) (e : Ending) (w' : World) : Prop :=
  ∃ R cR A cap, e = .returned (.tuple #[.slice R r.1.length cR, .agg (r.2.1.cells A cap), .int .i64 r.2.2]) ∧ Fifo w.heap.size w' R r.1 cR ∧ Fifo w.heap.size w' A r.2.1.has cap ∧ Below w.heap.size w w'

/-- Between two rounds of Play. -/
structure PlayInv (w wr : World) (s : Qu × List Int) (R : Option Addr) (cR : Nat) (A : Option Addr) (cap : Nat) : Prop where
  line : LineAt (w.heap.size + 2) wr (w.heap.size + 1) s.1 A cap
  outs : Fifo (w.heap.size + 2) wr R s.2 cR
  far : ∀ g, Ab A g → ¬ Ab R g
  res : QuAt wr w.heap.size Qu.zero none 0
  below : Below w.heap.size w wr
  size : w.heap.size + 2 ≤ wr.heap.size

/-- A round's operation, done: what holds of it. -/
theorem play_round {w wr : World} {s : Qu × List Int} {R : Option Addr} {cR : Nat} {A : Option Addr} {cap : Nat} {o : Int × Int} (h : PlayInv w wr s R cR A cap) {e : Ending} {w2 : World}
    (hd : Done (w.heap.size + 2) (wr.alloc (.cells #[.int .i64 o.1, .int .i64 o.2] 26)) (w.heap.size + 1) A (s.1.act o.1 o.2) e w2) :
    e = .returned (.tuple #[.int .i64 (s.1.act o.1 o.2).2.1, .int .i64 (s.1.act o.1 o.2).2.2]) ∧ w2.cell? ⟨wr.heap.size, 0, none⟩ = some (.int .i64 o.1) ∧ wr.heap.size < w2.heap.size ∧ ∃ A' cap', PlayInv w w2 ((s.1.act o.1 o.2).1, s.2) R cR A' cap' := by
  obtain ⟨he, A', cap', hL, hA, hC⟩ := hd
  have hz : (wr.alloc (.cells #[.int .i64 o.1, .int .i64 o.2] 26)).heap.size = wr.heap.size + 1 := by simp
  have hs := hC.size
  have hw := h.size
  have hbo : Below wr.heap.size wr (wr.alloc (.cells #[.int .i64 o.1, .int .i64 o.2] 26)) := (Below.refl _ _).alloc (Nat.le_refl _) _
  have hkeep : ∀ i, i < wr.heap.size → i ≠ w.heap.size + 1 → ¬ Ab A i → w2.heap[i]? = wr.heap[i]? := fun i hi h1 h2 => (hC.block i (by omega) (fun hk => by rcases hk with hk | hk; exact h1 hk; exact h2 hk)).trans (hbo.block i hi)
  refine ⟨he, ?_, by omega, A', cap', hL, h.outs.of_blocks (by omega) (fun g hg hl => hkeep g hl (by have := (h.outs.ab g hg).1; omega) (fun ha => h.far g ha hg)), fun g hg hR => ?_, ?_, ?_, by omega⟩
  · have hblk := hC.block wr.heap.size (by omega) (fun hk => by
      rcases hk with hk | hk
      · omega
      · have := (h.line.fifo.ab _ hk).2; omega)
    exact (World.cell?_of_block (a := ⟨wr.heap.size, 0, none⟩) hblk).trans (cell_of_row _ _ 0 _ _ _ (heap_alloc_new wr _))
  · rcases hA g hg with ha | ha
    · exact h.far g ha hR
    · have := (h.outs.ab g hR).2; omega
  · exact (hkeep _ (by omega) (by omega) (fun ha => by have := (h.line.fifo.ab _ ha).1; omega)).trans h.res
  · have hb := h.below
    refine ⟨hC.os.trans hb.os, hC.tape.trans hb.tape, hC.output.trans hb.output, by omega, fun i hi => (hkeep i (by omega) (by omega) (fun ha => by have := (h.line.fifo.ab _ ha).1; omega)).trans (hb.block i hi)⟩
/-- A number more among the answers. -/
theorem play_out {w w2 : World} {s : Qu} {outs : List Int} {R : Option Addr} {cR : Nat} {A : Option Addr} {cap : Nat} (h : PlayInv w w2 (s, outs) R cR A cap) (num : Int) (hn : (outs.length + 1) * 8 ≤ 140737488355328) :
    ∃ R' cR' W, (∀ ty, (Builtin.append_ #[22, 22] ty #[.slice R outs.length cR, .slice (some ⟨w2.heap.size, 0, none⟩) 1 1]).run Try.prog (w2.alloc (.cells #[.int .i64 num] 3)) = .ok (.slice R' (outs.length + 1) cR') W) ∧ PlayInv w W (s, outs ++ [num]) R' cR' A cap := by
  have hz : (w2.alloc (.cells #[.int .i64 num] 3)).heap.size = w2.heap.size + 1 := by simp
  have hw := h.size
  have hbo : Below w2.heap.size w2 (w2.alloc (.cells #[.int .i64 num] 3)) := (Below.refl _ _).alloc (Nat.le_refl _) _
  have hy : IntsIn (w2.alloc (.cells #[.int .i64 num] 3)) (some ⟨w2.heap.size, 0, none⟩) [num] := ⟨fun _ => ⟨w2.heap.size, 0, rfl, by omega, fun j x hx => by
    cases j with
    | zero => simp only [List.getElem?_cons_zero, Option.some.injEq] at hx; subst hx; exact cell_of_row _ _ 0 _ _ _ (heap_alloc_new w2 _)
    | succ j => simp at hx⟩, by simp⟩
  obtain ⟨R', cR', W, hr, hf, hc, hab⟩ := fifo_app (h.outs.below hbo) hy 1 (by omega) (by simpa using hn)
  have hs := hc.size
  have hkeep : ∀ i, i < w2.heap.size → ¬ Ab R i → W.heap[i]? = w2.heap[i]? := fun i hi h2 => (hc.block i (by omega) h2).trans (hbo.block i hi)
  have hb := h.below
  refine ⟨R', cR', W, hr, ⟨⟨h.line.row.of_block (hkeep _ h.line.lt (fun hk => by have := (h.outs.ab _ hk).1; omega)), h.line.fifo.of_blocks (by omega) (fun g hg hl => hkeep g hl (h.far g hg)), h.line.nab⟩, hf, fun g hg hR => ?_, (hkeep _ (by omega) (fun hk => by have := (h.outs.ab _ hk).1; omega)).trans h.res, ⟨hc.os.trans hb.os, hc.tape.trans hb.tape, hc.output.trans hb.output, by omega, fun i hi => (hkeep i (by omega) (fun hk => by have := (h.outs.ab _ hk).1; omega)).trans (hb.block i hi)⟩, by omega⟩⟩
  rcases hab g hR with ha | ha
  · exact h.far g hg ha
  · have := (h.line.fifo.ab g hg).2; omega

theorem results_qm {fn : Func} (p u v : Tmp) (h : fn.results = #[.tmp u, .cell p 24, .tmp v]) (tmps : Array Value) (w : World) {g : Nat} {q : Qu} {A : Option Addr} {cap : Nat} (hp : tmps.getD p undef = .pointer (some ⟨g, 0, none⟩)) (hq : QuAt w g q A cap) :
    (results fn tmps).run Try.prog w = .ok (.tuple #[tmps.getD u undef, .agg (q.cells A cap), tmps.getD v undef]) w := by
  have hp' : tmps[p]?.getD undef = .pointer (some ⟨g, 0, none⟩) := by simpa using hp
  simp only [results, h]
  simp [Result.andThen, hp', asAddr, run_loadVar_row w g 24 24 _ _ _ hq Try.underlying24 rfl info_queue]

theorem wp_store_qu {o : Oper} {a : Act} {w : World} {K : Act → World → Prop} {Q : Exit → Act → World → Prop} (x y : Operand) (ho : o.op = .store 24 x y)
    (g : Nat) (q q0 : Qu) (A A0 : Option Addr) (cap cap0 : Nat) (hx : a.eval x = .pointer (some ⟨g, 0, none⟩)) (hy : a.eval y = .agg (q.cells A cap)) (hg : QuAt w g q0 A0 cap0)
    (k : K (a.put o.dst undef) (w.setRow g (q.cells A cap))) : o.wp Try.prog a w K Q :=
  wp_store_row 24 x y ho g (q.cells A cap) hx hy 24 (q0.cells A0 cap0) hg info_queue rfl (one_queue q A cap) k

set_option maxRecDepth 100000 in
set_option maxHeartbeats 4000000 in
theorem play_any {w : World} {A : Option Addr} {os : List (Int × Int)} {n : Nat} (hO : OpsIn w A os) (hn : os.length = n) (cap : Nat) (most mb : Int) :
    Calls Try.prog 13 #[.int .i64 most, .int .i64 mb, .slice A n cap] w (Played w (played most mb os)) := by
  obtain ⟨m, hm⟩ : ∃ m, m = (w.alloc (.cells #[.slice none 0 0, .int .i64 0, .int .i64 0, .int .i64 0] 24)).alloc (.cells #[.slice none 0 0, .int .i64 most, .int .i64 mb, .int .i64 0, .int .i64 0] 45) := ⟨_, rfl⟩
  have b1 : Below w.heap.size w (w.alloc (.cells #[.slice none 0 0, .int .i64 0, .int .i64 0, .int .i64 0] 24)) := (Below.refl _ _).alloc (Nat.le_refl _) _
  have b2 := b1.alloc b1.size (.cells #[.slice none 0 0, .int .i64 most, .int .i64 mb, .int .i64 0, .int .i64 0] 45)
  rw [← hm] at b2
  have hsz : m.heap.size = w.heap.size + 2 := by rw [hm]; simp
  have q1 : QuAt m w.heap.size Qu.zero none 0 := by
    rw [hm]
    unfold QuAt
    rw [Below.heap_alloc _ _ _ (by simp)]
    exact heap_alloc_new w _
  have l1 : LineAt (w.heap.size + 2) m (w.heap.size + 1) (Qu.start most mb) none 0 := by
    refine ⟨⟨#[.slice none 0 0, .int .i64 most, .int .i64 mb, .int .i64 0, .int .i64 0], ?_, rfl, fun i hi => ?_⟩, Fifo.nil _ _, fun h => by obtain ⟨a, e, _⟩ := h; cases e⟩
    · rw [hm]
      have : w.heap.size + 1 = (w.alloc (.cells #[.slice none 0 0, .int .i64 0, .int .i64 0, .int .i64 0] 24)).heap.size := by simp
      rw [this]
      exact heap_alloc_new _ _
    · rcases (by omega : i = 0 ∨ i = 1 ∨ i = 2 ∨ i = 3 ∨ i = 4) with rfl | rfl | rfl | rfl | rfl <;> rfl
  have hlen := hO.len
  rw [hn] at hlen
  have HR := Lib.hid (right_any (q := Qu.start most mb) (A := none) (w := m) ⟨fun h => absurd h (by simp [Qu.start]), by simp [Qu.start]⟩ 0)
  have HO := Lib.hid hO
  have HM := Lib.hid hm
  have HN := Lib.hid hn
  have HQ := Lib.hid (And.intro q1 (And.intro l1 (And.intro b2 hsz)))
  obtain ⟨c0, c1, c2, c3⟩ := And.intro l1.c0 (And.intro l1.c1 (And.intro l1.c2 l1.c3))
  clear b1 b2 q1 l1 hsz hm hO hn
  cases hr : (Qu.start most mb).right with
  | false =>
    rw [hr] at HR
    have HD : Hid (∀ W, Below w.heap.size w W → Played w (played most mb os) (.returned (.tuple #[.slice none 0 0, .agg (Qu.zero.cells none 0), .int .i64 2])) W) := Lib.hid (fun W hW => by
      have e : played most mb os = ([], Qu.zero, 2) := by unfold played; rw [hr]; rfl
      rw [e]
      exact ⟨none, 0, none, 0, rfl, Fifo.nil _ _, Fifo.nil _ _, hW⟩)
    generalize Played w (played most mb os) = D at *
    clear hr
    go_enter Try.func13, Try.ntmps13
    go_upto_region 2 with fail
    rw [← HM.out]
    go_wp2_with fail
    refine HR.out.mono ?_
    rintro e w1 ⟨rfl, hb⟩
    have HQ1 := Lib.hid (HQ.out.1.below hb)
    have HB1 := Lib.hid (HQ.out.2.2.1.trans (hb.mono HQ.out.2.2.1.size))
    clear hb HR c0 c1 c2 c3
    go_wp2_with (refine wpList_store_qu rfl (.tmp 7) (.tmp 23) rfl w.heap.size Qu.zero Qu.zero none none 0 0 rfl rfl HQ1.out ?_)
    exact bodyPost_ret (results_qm 7 6 8 rfl _ _ rfl (HQ1.out.stored Qu.zero none 0)) rfl (HD.out _ (HB1.out.trans (below_setRow _ (Nat.le_refl _))))
  | true =>
    rw [hr] at HR
    have HD : Hid (∀ W R cR A cap, Fifo w.heap.size W R (plays most mb os).2 cR → Fifo w.heap.size W A (plays most mb os).1.has cap → Below w.heap.size w W → Played w (played most mb os) (.returned (.tuple #[.slice R (plays most mb os).2.length cR, .agg ((plays most mb os).1.cells A cap), .int .i64 0])) W) := Lib.hid (fun W R cR A cap h1 h2 hW => by
      have e : played most mb os = ((plays most mb os).2, (plays most mb os).1, 0) := by unfold played; rw [if_pos hr]
      rw [e]
      exact ⟨R, cR, A, cap, rfl, h1, h2, hW⟩)
    generalize Played w (played most mb os) = D at *
    have HK := Lib.hid (fun i => plays_ok hr (os.take i))
    clear hr
    go_enter Try.func13, Try.ntmps13
    go_upto_region 2 with fail
    rw [← HM.out]
    go_wp2_with fail
    refine HR.out.mono ?_
    rintro e w1 ⟨rfl, hb⟩
    have HI : Hid (PlayInv w w1 (plays most mb (os.take 0)) none 0 none 0) := Lib.hid ⟨HQ.out.2.1.below hb, Fifo.nil _ _, fun g hg => by (obtain ⟨a, e, _⟩ := hg; cases e), HQ.out.1.below hb, HQ.out.2.2.1.trans (hb.mono HQ.out.2.2.1.size), by have := hb.size; have := HQ.out.2.2.2; omega⟩
    clear hb HR c0 c1 c2 c3 HM HQ
    go_wp2_with fail
    go_loopg [10, 26] n (fun k v c wr => ∃ i : Nat, c = .int .i64 (i : Int) ∧ i + k = n ∧ ∃ R cR A' cap', v = .slice R (plays most mb (os.take i)).2.length cR ∧ Hid (PlayInv w wr (plays most mb (os.take i)) R cR A' cap'))
    case atStart => exact ⟨0, rfl, by omega, none, 0, none, 0, rfl, HI⟩
    case round =>
      clear HI
      obtain ⟨i, rfl, hik, R, cR, A', cap', rfl, HI⟩ := hrel
      cases gk with
      | zero =>
        obtain rfl : i = n := by omega
        have he : os.take i = os := List.take_of_length_le (by have := HN.out; omega)
        rw [he] at HI ⊢
        obtain ⟨c0, c1, c2, c3⟩ := And.intro HI.out.line.c0 (And.intro HI.out.line.c1 (And.intro HI.out.line.c2 HI.out.line.c3))
        clear he HK HO HN
        go_wp2_with fail
        have HS : Hid (∀ W : World, W.heap[w.heap.size + 1]? = wr.heap[w.heap.size + 1]? → (fun W : World => W.cell? ⟨w.heap.size + 1, 0, none⟩ = some (.slice A' (plays most mb os).1.has.length cap') ∧ W.cell? ⟨w.heap.size + 1, 1, none⟩ = some (.int .i64 (plays most mb os).1.most) ∧ W.cell? ⟨w.heap.size + 1, 2, none⟩ = some (.int .i64 (plays most mb os).1.mb) ∧ W.cell? ⟨w.heap.size + 1, 3, none⟩ = some (.int .i64 (plays most mb os).1.dr)) W) := Lib.hid (fun W hW => by
          have hr := HI.out.line.row.of_block hW
          exact ⟨hr.cell (by omega), hr.cell (by omega), hr.cell (by omega), hr.cell (by omega)⟩)
        refine wp_region_held_drew (S := (fun W : World => W.cell? ⟨w.heap.size + 1, 0, none⟩ = some (.slice A' (plays most mb os).1.has.length cap') ∧ W.cell? ⟨w.heap.size + 1, 1, none⟩ = some (.int .i64 (plays most mb os).1.most) ∧ W.cell? ⟨w.heap.size + 1, 2, none⟩ = some (.int .i64 (plays most mb os).1.mb) ∧ W.cell? ⟨w.heap.size + 1, 3, none⟩ = some (.int .i64 (plays most mb os).1.dr))) (by kernel_rfl) (HS.out _ rfl) (fun hHeld => ?_)
        refine wpAnyH_take (i := 0) (v := ?_) (by simp only [List.getElem?_toArray, List.getElem?_cons_zero] <;> rfl) (by kernel_rfl) (by kernel_rfl) (by kernel_rfl) (by exact fun _ _ _ h => h) (Or.inl ⟨by rfl, ?_⟩) hHeld ?_
        rotate_left
        · intro w hSw; (try dsimp only at hSw); go_simp; (try with_reducible rfl)
        (try simp only [Act.put, List.setIfInBounds_toArray, List.set_cons_zero, List.set_cons_succ])
        refine wpAnyH_take (i := 1) (v := ?_) (by simp only [List.getElem?_toArray, List.getElem?_cons_succ, List.getElem?_cons_zero] <;> rfl) (by kernel_rfl) (by kernel_rfl) (by kernel_rfl) (by exact fun _ _ _ h => h) (Or.inl ⟨by rfl, ?_⟩) hHeld ?_
        rotate_left
        · intro w hSw; (try dsimp only at hSw); go_simp; (try with_reducible rfl)
        (try simp only [Act.put, List.setIfInBounds_toArray, List.set_cons_zero, List.set_cons_succ])
        refine wpAnyH_take (i := 2) (v := ?_) (by simp only [List.getElem?_toArray, List.getElem?_cons_succ, List.getElem?_cons_zero] <;> rfl) (by kernel_rfl) (by kernel_rfl) (by kernel_rfl) (by exact fun _ _ _ h => h) (Or.inl ⟨by rfl, ?_⟩) hHeld ?_
        rotate_left
        · intro w hSw; (try dsimp only at hSw); go_simp; (try with_reducible rfl)
        (try simp only [Act.put, List.setIfInBounds_toArray, List.set_cons_zero, List.set_cons_succ])
        refine wpAnyH_take (i := 3) (v := ?_) (by simp only [List.getElem?_toArray, List.getElem?_cons_succ, List.getElem?_cons_zero] <;> rfl) (by kernel_rfl) (by kernel_rfl) (by kernel_rfl) (by exact fun _ _ _ h => h) (Or.inl ⟨by rfl, ?_⟩) hHeld ?_
        rotate_left
        · intro w hSw; (try dsimp only at hSw); go_simp; (try with_reducible rfl)
        (try simp only [Act.put, List.setIfInBounds_toArray, List.set_cons_zero, List.set_cons_succ])
        refine wpAnyH_ready (rs := [4]) (by kernel_rfl) (by simp) ?_
        refine AllReadyH.cons (by simp only [List.getElem?_toArray, List.getElem?_cons_succ, List.getElem?_cons_zero] <;> rfl) (fun K hK => ?_) AllReadyH.nil
        rw [if_pos (by rfl)]
        refine wp_store_qu (.tmp 7) (.tmp 49) rfl w.heap.size (plays most mb os).1 Qu.zero A' none cap' 0 rfl rfl HI.out.res ?_
        refine hK.out _ _ ?_ (fun hHeld => ?_)
        · exact HS.out _ (setRow_other wr _ _ _ (by omega))
        clear hK K
        (try simp only [Act.put])
        refine wpAnyH_take (i := 5) (v := ?_) (by simp only [List.getElem?_toArray, List.getElem?_cons_succ, List.getElem?_cons_zero] <;> rfl) (by kernel_rfl) (by kernel_rfl) (by kernel_rfl) (by exact fun _ _ _ h => h) (Or.inl ⟨by rfl, ?_⟩) hHeld ?_
        rotate_left
        · intro w hSw; (try dsimp only at hSw); go_simp; (try with_reducible rfl)
        (try simp only [Act.put, List.setIfInBounds_toArray, List.set_cons_zero, List.set_cons_succ])
        refine wpAnyH_done (by kernel_rfl) ?_ _
        go_wp2_with fail
        have hA : ∀ g, Ab A' g → g ≠ w.heap.size := fun g hg => by have := (HI.out.line.fifo.ab g hg).1; omega
        have hR : ∀ g, Ab R g → g ≠ w.heap.size := fun g hg => by have := (HI.out.outs.ab g hg).1; omega
        exact bodyPost_ret (results_qm 7 6 8 rfl _ _ rfl (HI.out.res.stored (plays most mb os).1 A' cap')) rfl (HD.out _ _ _ _ _ ((HI.out.outs.mono (by omega)).of_blocks (by simp) (fun g hg _ => setRow_other wr _ g _ (hR g hg))) ((HI.out.line.fifo.mono (by omega)).of_blocks (by simp) (fun g hg _ => setRow_other wr _ g _ (hA g hg))) (HI.out.below.drew.trans (below_setRow _ (Nat.le_refl _))))
      | succ k =>
        have hi : i < n := by omega
        have i1 : (i : Int) < (n : Int) := by omega
        have hOw := HO.out.below HI.out.below
        obtain ⟨b, off, kd, x, rfl, hx, hk0, hk1, hbl⟩ := hOw.next (i := i) (by have := HN.out; omega)
        have HX := Lib.hid hx
        have bo : Below wr.heap.size wr (wr.alloc (.cells #[.int .i64 kd, .int .i64 x] 26)) := (Below.refl _ _).alloc (Nat.le_refl _) _
        have HP := Lib.hid (perform_any (HI.out.line.below bo) (HK.out i) (by have := HI.out.size; simp; omega) kd x)
        have HE := Lib.hid (show plays most mb (os.take (i + 1)) = (((plays most mb (os.take i)).1.act kd x).1, if ((plays most mb (os.take i)).1.act kd x).2.2 = 0 ∧ kd = 2 then (plays most mb (os.take i)).2 ++ [((plays most mb (os.take i)).1.act kd x).2.1] else (plays most mb (os.take i)).2) from plays_snoc hx)
        have HI2 := Lib.hid (fun e w2 hd => play_round (o := (kd, x)) HI.out (e := e) (w2 := w2) hd)
        have HL := Lib.hid (Nat.le_trans (plays_len most mb (os.take i)) (by rw [List.length_take]; exact Nat.min_le_left _ _))
        clear hOw hx bo HI HD
        generalize plays most mb (os.take i) = st at *
        generalize st.1.act kd x = X at *
        obtain ⟨st1, outs⟩ := st
        obtain ⟨X1, num, er⟩ := X
        dsimp only at *
        go_wp2_with fail
        refine HP.out.mono ?_
        intro e w2 hd
        obtain ⟨rfl, hc0, hlt, A2, cap2, hI⟩ := HI2.out _ _ hd
        by_cases c : er = 0 ∧ kd = 2
        · obtain ⟨rfl, rfl⟩ := c
          obtain ⟨R', cR', W, hrun, hI'⟩ := play_out hI num (by have := HL.out; omega)
          have HR := Lib.hid hrun
          have HV : Hid (Value.slice R' (outs.length + 1) cR' = .slice R' (plays most mb (os.take (i + 1))).2.length cR' ∧ PlayInv w W (plays most mb (os.take (i + 1))) R' cR' A2 cap2) := Lib.hid (by
            rw [HE.out, if_pos ⟨rfl, rfl⟩]
            exact ⟨by rw [List.length_append]; rfl, hI'⟩)
          clear hd hI hI' hrun HI2 HP HE
          go_wp2_with (at_builtin; refine wpList_append_eq rfl (.tmp 42) (.tmp 44) 22 22 rfl rfl rfl (HR.out _) ?_)
          go_roundg k
          case measure => omega
          case rel => exact ⟨i + 1, by go_num, by omega, R', cR', A2, cap2, HV.out.1, Lib.hid HV.out.2⟩
        · have HV : Hid (Value.slice R outs.length cR = .slice R (plays most mb (os.take (i + 1))).2.length cR ∧ PlayInv w w2 (plays most mb (os.take (i + 1))) R cR A2 cap2) := Lib.hid (by
            rw [HE.out, if_neg c]
            exact ⟨rfl, hI⟩)
          clear hd hI HI2 HP HE
          by_cases c1 : er = 0
          · subst c1
            have c2 : (kd == 2) = false := by simpa using c
            clear c
            go_wp2_with fail
            go_roundg k
            case measure => omega
            case rel => exact ⟨i + 1, by go_num, by omega, R, cR, A2, cap2, HV.out.1, Lib.hid HV.out.2⟩
          · have c2 : (er == 0) = false := by simpa using c1
            clear c c1
            go_wp2_with fail
            go_roundg k
            case measure => omega
            case rel => exact ⟨i + 1, by go_num, by omega, R, cR, A2, cap2, HV.out.1, Lib.hid HV.out.2⟩
end Go.Proofs.Ythjnjfolbhhpnaa
