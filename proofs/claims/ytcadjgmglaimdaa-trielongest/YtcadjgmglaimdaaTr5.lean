/- A prefix added to the trie. -/
import Derived.Test.YtcadjgmglaimdaaTr4
namespace Go.Proofs.Ytcadjgmglaimdaa
open Go.RowKit Go.Maps

theorem below_any {B : Nat} {w : World} {q : Nat} {ns : List Nd} (h : TrieAt B w q ns) (hB : B ≤ w.heap.size) {a s : Nat} (ha : a < ns.length) (hn : ns.length ≤ 100000) (hs : s < 2) :
    Calls Try.prog 30 #[.pointer (some ⟨q, 0, none⟩), .int .i64 (a : Int), .int .u32 (s : Int)] w (Belowed B w q ns a s) := by
  rcases (show s = 0 ∨ s = 1 by omega) with rfl | rfl
  · exact below0 h hB ha hn
  · exact below1 h hB ha hn

def Added (B : Nat) (w : World) (q m : Nat) (ps : List Pf) (p : Pf) (e : Ending) (w' : World) : Prop :=
  Below B w w' ∧ ((e = .returned (.bool false) ∧ ∃ r ∈ ps, same r p) ∨ (e = .returned (.bool true) ∧ (¬ ∃ r ∈ ps, same r p) ∧ ∃ ns, ns.length ≤ m + 32 ∧ TrieAt B w' q ns ∧ TriOk ns (ps ++ [p])))

/-- A held node. -/
theorem held_stored {B : Nat} {w : World} {q g cap : Nat} {ns : List Nd} (hq : w.heap[q]? = some (.cells #[.slice (some ⟨g, 0, none⟩) ns.length cap] 59 (0, 0))) (h : w.ownsRow B 62 4 (.slice (some ⟨g, 0, none⟩) ns.length cap) ns.length (ndCells ns)) (hB : B ≤ w.heap.size) (hBq : B ≤ q) (hp : 0 < ns.length)
    {j : Nat} (hj : j < ns.length) (t : Int) : TrieAt B ((w.setCell ⟨g, j * 4 + 2, none⟩ (.bool true)).setCell ⟨g, j * 4 + 3, none⟩ (.int .i64 t)) q (holdNd ns j t) ∧ Kept B w ((w.setCell ⟨g, j * 4 + 2, none⟩ (.bool true)).setCell ⟨g, j * 4 + 3, none⟩ (.int .i64 t)) := by
  obtain ⟨h1, h2, h3⟩ := node_stored hq h hB hj 2 (by decide) (.bool true) { nd ns j with held := true } rfl
  have hj2 : j < (ns.set j { nd ns j with held := true }).length := by rw [List.length_set]; exact hj
  have e : nd (ns.set j { nd ns j with held := true }) j = { nd ns j with held := true } := by rw [nd_set _ hj, if_pos rfl]
  obtain ⟨h4, h5, h6⟩ := node_stored h1 h2 (Nat.le_trans hB h3.size) hj2 3 (by decide) (.int .i64 t) { nd ns j with held := true, led := t } (by rw [e]; rfl)
  rw [List.set_set] at h4 h5
  exact ⟨⟨⟨g, cap, h4, h5⟩, hBq, by rw [holdNd, List.length_set]; exact hp⟩, h3.trans h6⟩

set_option maxRecDepth 100000 in
set_option maxHeartbeats 4000000 in
theorem add_any {B : Nat} {w : World} {q : Nat} {ns : List Nd} {ps : List Pf} {p : Pf} (h : TrieAt B w q ns) (hB : B ≤ w.heap.size) (hT : TriOk ns ps) (hn : ns.length + 32 ≤ 100000) (hv : ∀ r ∈ ps, r.val ∧ low r) (hp : p.val) (hl : low p) (ha : p.ad.Ok) :
    Calls Try.prog 28 #[.pointer (some ⟨q, 0, none⟩), .agg p.cells.toArray] w (Added B w q ns.length ps p) := by
  have HN : Hid (∀ w, Calls Try.prog 26 #[.agg p.ad.cells.toArray] w fun e w' => e = .returned (.int .u32 (p.n : Int)) ∧ Below w.heap.size w w') := Lib.hid (fun w => number_b p.ad ha w)
  have hx : p.n < 4294967296 := ha.lt
  have hb0 := hp.1
  have hb1 := hp.2
  have HI : Hid (∀ (ms : List Nd) (i : Nat), TriOk ms ps → walk ms p.n p.b = some i → ((nd ms i).held = true ↔ ∃ r ∈ ps, same r p)) := Lib.hid (fun ms i h1 h2 => held_iff h1 hp hv hl hx h2)
  have HO : Hid (∀ (ms : List Nd) (i : Nat), TriOk ms ps → walk ms p.n p.b = some i → TriOk (holdNd ms i p.led) (ps ++ [p])) := Lib.hid (fun ms i h1 h2 => hold_ok h1 hp hx h2)
  have HBT : Hid (∀ i : Nat, i < 32 → ∀ w, Calls Try.prog 29 #[.int .u32 (p.n : Int), .int .i64 (i : Int)] w fun e w' => e = .returned (.int .u32 (bitAt p.n i : Int)) ∧ w = w') := Lib.hid (fun i hi w => bit_any p.n i hi hx w)
  have HR : Hid (∀ e w', Added B w q ns.length ps p e w' → Added B w q ns.length ps p e w') := Lib.hid (fun _ _ h => h)
  have hbb : (p.b : Int) = p.bits := by unfold Pf.b; omega
  generalize hXX : p.n = x at *
  generalize hbe : p.b = b at *
  obtain ⟨Q, hQ⟩ : ∃ Q : Ending → World → Prop, Q = Added B w q ns.length ps p := ⟨_, rfl⟩
  have HQ := Lib.hid hQ
  rw [← hQ]
  clear hQ
  obtain ⟨⟨a0, a1, a2, a3⟩, bi, t⟩ := p
  unfold Pf.cells
  unfold Ad.cells at HN
  dsimp only at hb0 hb1 hbb HN HO ⊢
  subst hbb
  have k1 : b ≤ 32 := by omega
  have hw1 : TrieAt B (w.alloc (.cells #[.int .u8 a0, .int .u8 a1, .int .u8 a2, .int .u8 a3, .int .i64 (b : Int), .int .i64 t] 26)) q ns := h.below ((Below.refl _ _).alloc (Nat.le_refl _) _)
  have hk1 : Kept B w (w.alloc (.cells #[.int .u8 a0, .int .u8 a1, .int .u8 a2, .int .u8 a3, .int .i64 (b : Int), .int .i64 t] 26)) := Kept.of_below ((Below.refl _ _).alloc (Nat.le_refl _) _) hB
  have hP1 : (w.alloc (.cells #[.int .u8 a0, .int .u8 a1, .int .u8 a2, .int .u8 a3, .int .i64 (b : Int), .int .i64 t] 26)).heap[w.heap.size]? = some (.cells #[.int .u8 a0, .int .u8 a1, .int .u8 a2, .int .u8 a3, .int .i64 (b : Int), .int .i64 t] 26 (0, 0)) := heap_alloc_new w _
  have HA := Lib.hid (And.intro hw1 (And.intro hk1 hP1))
  have HH := Lib.hid (And.intro hT (And.intro hB h.pos))
  clear h hw1 hk1 hP1 hT hB hv hp hl ha
  go_enter Try.func28, Try.ntmps28
  go_wp2_with fail
  refine (HN.out _).mono ?_
  rintro e w2 ⟨rfl, hb2⟩
  obtain ⟨y1, y2, y3⟩ := HA.out
  have z1 := y1.below hb2
  have z2 := y2.trans (Kept.of_below hb2 (Nat.le_trans HH.out.2.1 y2.size))
  have z3 := (hb2.block w.heap.size (Array.getElem?_eq_some_iff.1 y3).1).trans y3
  have c4 : w2.cell? ⟨w.heap.size, 4, none⟩ = some (.int .i64 (b : Int)) := cell_of_row _ _ 4 _ _ _ z3
  have HA2 := Lib.hid (And.intro z1 (And.intro z2 z3))
  clear HA HN hb2 y1 y2 y3 z1 z2 z3
  go_wp2_with fail
  go_loopg [5, 14] b (fun k v5 v14 wr => ∃ i a ms, v14 = .int .i64 ((i : Nat) : Int) ∧ v5 = .int .i64 ((a : Nat) : Int) ∧ i + k = b ∧ Hid (walk ms x i = some a ∧ TriOk ms ps ∧ TrieAt B wr q ms ∧ ms.length ≤ ns.length + i ∧ Kept B w wr ∧ wr.heap[w.heap.size]? = some (.cells #[.int .u8 a0, .int .u8 a1, .int .u8 a2, .int .u8 a3, .int .i64 (b : Int), .int .i64 t] 26 (0, 0))))
  case atStart => exact ⟨0, 0, ns, rfl, rfl, by omega, Lib.hid ⟨rfl, HH.out.1, HA2.out.1, by omega, HA2.out.2.1, HA2.out.2.2⟩⟩
  case round =>
    clear c4
    obtain ⟨i, a, ms, rfl, rfl, hik, HW⟩ := hrel
    cases gk with
    | zero =>
      obtain rfl : i = b := by omega
      obtain ⟨l1, l2, l3, l4, l5, l6⟩ := HW.out
      obtain ⟨g, cap, hq, hr⟩ := l3.ex
      have hal : a < ms.length := by obtain ⟨L, hL⟩ := l2; exact hL.lt l1
      have cq : wr.cell? ⟨q, 0, none⟩ = some (.slice (some ⟨g, 0, none⟩) ms.length cap) := cell_of_row wr q 0 _ _ _ hq
      have hcap : ms.length ≤ cap := by obtain ⟨_, _, _, hc⟩ := row_at hr; exact hc
      have ch := (node_cells hr hal).2.2.1
      have ct := (node_cells hr hal).2.2.2
      have f2 := World.ownsRow.frozenAt hr (a * 4 + 2)
      have f3 := World.ownsRow.frozenAt hr (a * 4 + 3)
      have c5 : wr.cell? ⟨w.heap.size, 5, none⟩ = some (.int .i64 t) := cell_of_row _ _ 5 _ _ _ l6
      have hi' := HI.out ms a l2 l1
      have ho' := HO.out ms a l2 l1
      have hal' : (a : Int) < (ms.length : Int) := by omega
      have hsm : ms.length ≤ 100000 := by omega
      have hne : (⟨w.heap.size, 5, none⟩ : Addr).block ≠ g := by
        obtain ⟨cur, hg, _⟩ := row_at hr
        exact block_ne l6 hg (by decide)
      cases hh : (nd ms a).held with
      | true =>
        rw [hh] at ch
        have HF : Hid (Q (.returned (.bool false)) wr) := Lib.hid (by rw [HQ.out]; exact ⟨l5.below, .inl ⟨rfl, hi'.1 hh⟩⟩)
        clear HI HO HQ HR HA2 HH HW l1 l2 l3 l4 l5 l6 hi' ho' hq hr HBT hne
        generalize ms.length = n at *
        go_wp2_with fail
        exact HF.out
      | false =>
        rw [hh] at ch
        obtain ⟨o1, o2⟩ := held_stored hq hr (Nat.le_trans HH.out.2.1 l5.size) l3.bq l3.pos hal t
        have hno : ¬ ∃ r ∈ ps, same r _ := fun h => by have := hi'.2 h; rw [hh] at this; cases this
        have HF : Hid (Q (.returned (.bool true)) ((wr.setCell ⟨g, a * 4 + 2, none⟩ (.bool true)).setCell ⟨g, a * 4 + 3, none⟩ (.int .i64 t)).drew) := Lib.hid (by rw [HQ.out]; exact ⟨(l5.trans o2).below.drew, .inr ⟨rfl, hno, _, by rw [holdNd, List.length_set]; omega, ⟨o1.ex, o1.bq, o1.pos⟩, ho'⟩⟩)
        have HK : Hid ((wr.setCell ⟨g, a * 4 + 2, none⟩ (.bool true)).cell? ⟨w.heap.size, 5, none⟩ = some (.int .i64 t) ∧ ((wr.setCell ⟨g, a * 4 + 2, none⟩ (.bool true)).setCell ⟨g, a * 4 + 3, none⟩ (.int .i64 t)).cell? ⟨w.heap.size, 5, none⟩ = some (.int .i64 t)) := Lib.hid (by
          have e1 : (wr.setCell ⟨g, a * 4 + 2, none⟩ (.bool true)).cell? ⟨w.heap.size, 5, none⟩ = some (.int .i64 t) := (World.cell?_setCell_far _ _ _ _ (fun e => hne e.symm)).trans c5
          exact ⟨e1, (World.cell?_setCell_far _ _ _ _ (fun e => hne e.symm)).trans e1⟩)
        clear HI HO HQ HR HA2 HH HW l1 l2 l3 l4 l5 l6 hi' ho' hq hr HBT hne o1 o2 hno
        generalize ms.length = n at *
        go_upto_region 10 with fail
        refine wp_region_held_drew (S := (fun W => W.cell? ⟨w.heap.size, 5, none⟩ = some (.int .i64 t))) (by kernel_rfl) c5 (fun hHeld => ?_)
        refine wpAnyH_take (i := 0) (v := ?_) (by simp only [List.getElem?_toArray, List.getElem?_cons_zero] <;> rfl) (by kernel_rfl) (by kernel_rfl) (by kernel_rfl) (by exact fun _ _ _ h => h) (Or.inl ⟨by rfl, ?_⟩) hHeld ?_
        rotate_left
        · intro w hSw; (try dsimp only at hSw); go_simp; (try with_reducible rfl)
        (try simp only [Act.put, List.setIfInBounds_toArray, List.set_cons_zero, List.set_cons_succ])
        refine wpAnyH_take (i := 1) (v := ?_) (by simp only [List.getElem?_toArray, List.getElem?_cons_succ, List.getElem?_cons_zero] <;> rfl) (by kernel_rfl) (by kernel_rfl) (by kernel_rfl) (by exact fun _ _ _ h => h) (Or.inl ⟨by rfl, ?_⟩) hHeld ?_
        rotate_left
        · intro w hSw; (try dsimp only at hSw); go_simp; (try with_reducible rfl)
        (try simp only [Act.put, List.setIfInBounds_toArray, List.set_cons_zero, List.set_cons_succ])
        refine wpAnyH_take (i := 2) (v := ?_) (by simp only [List.getElem?_toArray, List.getElem?_cons_succ, List.getElem?_cons_zero] <;> rfl) (by kernel_rfl) (by kernel_rfl) (by kernel_rfl) (by exact fun _ _ _ h => h) (Or.inl ⟨by rfl, ?_⟩) hHeld ?_
        rotate_left
        · intro w hSw; (try dsimp only at hSw); go_simp; (try with_reducible rfl)
        (try simp only [Act.put, List.setIfInBounds_toArray, List.set_cons_zero, List.set_cons_succ])
        refine wpAnyH_take (i := 3) (v := ?_) (by simp only [List.getElem?_toArray, List.getElem?_cons_succ, List.getElem?_cons_zero] <;> rfl) (by kernel_rfl) (by kernel_rfl) (by kernel_rfl) (by exact fun _ _ _ h => h) (Or.inl ⟨by rfl, ?_⟩) hHeld ?_
        rotate_left
        · intro w hSw; (try dsimp only at hSw); go_simp; (try with_reducible rfl)
        (try simp only [Act.put, List.setIfInBounds_toArray, List.set_cons_zero, List.set_cons_succ])
        refine wpAnyH_take (i := 4) (v := ?_) (by simp only [List.getElem?_toArray, List.getElem?_cons_succ, List.getElem?_cons_zero] <;> rfl) (by kernel_rfl) (by kernel_rfl) (by kernel_rfl) (by exact fun _ _ _ h => h) (Or.inl ⟨by rfl, ?_⟩) hHeld ?_
        rotate_left
        · intro w hSw; (try dsimp only at hSw); go_simp; (try with_reducible rfl)
        (try simp only [Act.put, List.setIfInBounds_toArray, List.set_cons_zero, List.set_cons_succ])
        refine wpAnyH_take (i := 5) (v := ?_) (by simp only [List.getElem?_toArray, List.getElem?_cons_succ, List.getElem?_cons_zero] <;> rfl) (by kernel_rfl) (by kernel_rfl) (by kernel_rfl) (by exact fun _ _ _ h => h) (Or.inl ⟨by rfl, ?_⟩) hHeld ?_
        rotate_left
        · intro w hSw; (try dsimp only at hSw); go_simp; (try with_reducible rfl)
        (try simp only [Act.put, List.setIfInBounds_toArray, List.set_cons_zero, List.set_cons_succ])
        refine wpAnyH_ready (rs := [6]) (by kernel_rfl) (by simp) ?_
        refine AllReadyH.cons (by simp only [List.getElem?_toArray, List.getElem?_cons_succ, List.getElem?_cons_zero] <;> rfl) (fun K hK => ?_) AllReadyH.nil
        go_simp
        refine hK.out _ _ ?_ (fun hHeld => ?_)
        · exact HK.out.1
        clear hK K
        (try simp only [Act.put, List.setIfInBounds_toArray, List.set_cons_zero, List.set_cons_succ])
        refine wpAnyH_take (i := 7) (v := ?_) (by simp only [List.getElem?_toArray, List.getElem?_cons_succ, List.getElem?_cons_zero] <;> rfl) (by kernel_rfl) (by kernel_rfl) (by kernel_rfl) (by exact fun _ _ _ h => h) (Or.inl ⟨by rfl, ?_⟩) hHeld ?_
        rotate_left
        · intro w hSw; (try dsimp only at hSw); go_simp; (try with_reducible rfl)
        (try simp only [Act.put, List.setIfInBounds_toArray, List.set_cons_zero, List.set_cons_succ])
        refine wpAnyH_take (i := 8) (v := ?_) (by simp only [List.getElem?_toArray, List.getElem?_cons_succ, List.getElem?_cons_zero] <;> rfl) (by kernel_rfl) (by kernel_rfl) (by kernel_rfl) (by exact fun _ _ _ h => h) (Or.inl ⟨by rfl, ?_⟩) hHeld ?_
        rotate_left
        · intro w hSw; (try dsimp only at hSw); go_simp; (try with_reducible rfl)
        (try simp only [Act.put, List.setIfInBounds_toArray, List.set_cons_zero, List.set_cons_succ])
        refine wpAnyH_ready (rs := [9]) (by kernel_rfl) (by simp) ?_
        refine AllReadyH.cons (by simp only [List.getElem?_toArray, List.getElem?_cons_succ, List.getElem?_cons_zero] <;> rfl) (fun K hK => ?_) AllReadyH.nil
        go_simp
        refine hK.out _ _ ?_ (fun hHeld => ?_)
        · exact HK.out.2
        clear hK K
        (try simp only [Act.put, List.setIfInBounds_toArray, List.set_cons_zero, List.set_cons_succ])
        refine wpAnyH_done (by kernel_rfl) ?_ _
        go_wp2_with fail
        exact HF.out
    | succ k =>
      have hi32 : i < 32 := by omega
      have HC := Lib.hid (HBT.out i hi32 wr)
      obtain ⟨l1, l2, l3, l4, l5, l6⟩ := HW.out
      have hal : a < ms.length := by obtain ⟨L, hL⟩ := l2; exact hL.lt l1
      have HD := Lib.hid (below_any l3 (Nat.le_trans HH.out.2.1 l5.size) hal (by omega) (bitAt_lt x i))
      have hib : (i : Int) < (b : Int) := by omega
      clear l1 l2 l3 l4 l5 l6 hal HI HO HQ HR HA2 HBT
      obtain ⟨s, hs⟩ : ∃ s, bitAt x i = s := ⟨_, rfl⟩
      have HS := Lib.hid hs
      rw [hs] at HC HD
      clear hs
      go_wp2_with fail
      refine HC.out.mono ?_
      rintro e w3 ⟨rfl, rfl⟩
      go_wp2_with fail
      refine HD.out.mono ?_
      rintro e w3 ⟨ms', r, rfl, hst, ht3, hk3⟩
      have HX := Lib.hid (And.intro hst (And.intro ht3 hk3))
      clear hst ht3 hk3 HC HD
      go_wp2_with fail
      go_roundg k
      case measure => omega
      case rel =>
        obtain ⟨l1, l2, l3, l4, l5, l6⟩ := HW.out
        obtain ⟨m1, m2, m3⟩ := HX.out
        rw [← HS.out] at m1
        obtain ⟨n1, n2, n3⟩ := stepped_ok l2 l1 m1
        exact ⟨i + 1, r, ms', by go_num, rfl, by omega, Lib.hid ⟨n2, n1, m2, by omega, l5.trans m3, m3.pf _ _ l6⟩⟩
end Go.Proofs.Ytcadjgmglaimdaa
