/- A step down in the trie. -/
import Derived.Test.YtcadjgmglaimdaaTr3
namespace Go.Proofs.Ytcadjgmglaimdaa
open Go.RowKit Go.Maps

def Belowed (B : Nat) (w : World) (q : Nat) (ns : List Nd) (a s : Nat) (e : Ending) (w' : World) : Prop :=
  ∃ ns' r, e = .returned (.int .i64 ((r : Nat) : Int)) ∧ Stepped ns a s ns' r ∧ TrieAt B w' q ns' ∧ Kept B w w'

set_option maxRecDepth 100000 in
set_option maxHeartbeats 4000000 in
theorem below0 {B : Nat} {w : World} {q : Nat} {ns : List Nd} (h : TrieAt B w q ns) (hB : B ≤ w.heap.size) {a : Nat} (ha : a < ns.length) (hn : ns.length ≤ 100000) :
    Calls Try.prog 30 #[.pointer (some ⟨q, 0, none⟩), .int .i64 (a : Int), .int .u32 0] w (Belowed B w q ns a 0) := by
  obtain ⟨g, cap, hq, hr⟩ := h.ex
  have hBq := h.bq
  have cq : w.cell? ⟨q, 0, none⟩ = some (.slice (some ⟨g, 0, none⟩) ns.length cap) := cell_of_row w q 0 _ _ _ hq
  have cd := (node_cells hr ha).1
  have fz := World.ownsRow.frozenAt hr (a * 4)
  have hcap : ns.length ≤ cap := by obtain ⟨_, _, _, hc⟩ := row_at hr; exact hc
  obtain ⟨d, hd⟩ : ∃ d, d = (nd ns a).d0 := ⟨_, rfl⟩
  rw [← hd] at cd
  have hdn : (nd ns a).dn 0 = d := by rw [hd]; rfl
  have ha' : (a : Int) < (ns.length : Int) := by omega
  by_cases c : d = 0
  · subst c
    have HP : Hid _ := Lib.hid (node_stored (i := 0) hq hr hB ha (by decide) (.int .i64 (ns.length : Int)) ((nd ns a).put 0 ns.length) rfl)
    rw [show a * 4 + 0 = a * 4 by omega] at HP
    have HS : Hid (∀ W, Below w.heap.size w W → (fun W => W.cell? ⟨q, 0, none⟩ = some (.slice (some ⟨g, 0, none⟩) ns.length cap)) W) := Lib.hid (fun W hW => (hW.cell (p := ⟨q, 0, none⟩) h.lt).trans cq)
    have HK : Hid ((w.setCell ⟨g, a * 4, none⟩ (.int .i64 (ns.length : Int))).cell? ⟨q, 0, none⟩ = some (.slice (some ⟨g, 0, none⟩) ns.length cap)) := Lib.hid (by
      have := cell_of_row _ q 0 _ _ _ HP.out.1
      simpa using this)
    have HE : Hid (∀ W, Kept B w W → TrieAt B W q (ns.set a ((nd ns a).put 0 ns.length) ++ [Nd.zero]) → Belowed B w q ns a 0 (.returned (.int .i64 (ns.length : Int))) W) := Lib.hid (fun W h1 h2 => ⟨_, ns.length, rfl, .inr ⟨hdn, rfl, rfl⟩, h2, h1⟩)
    have HD : Hid (nd (ns.set a ((nd ns a).put 0 ns.length)) a = (nd ns a).put 0 ns.length) := Lib.hid (by rw [nd_set _ ha, if_pos rfl])
    have ha2 : a < (ns.set a ((nd ns a).put 0 ns.length)).length := by rw [List.length_set]; exact ha
    generalize hms : ns.set a ((nd ns a).put 0 ns.length) = ms at *
    have hml : ms.length = ns.length := by rw [← hms, List.length_set]
    rw [hml] at ha2
    have HM := Lib.hid hml
    have hn2 : ms.length ≤ 100000 := by omega
    have HC := Lib.hid (And.intro hB (And.intro hBq (And.intro hn2 ha2)))
    have HDD : Hid ((nd ms a).d0 = ns.length) := Lib.hid (by rw [HD.out]; rfl)
    clear h hr hq hd hdn hms hml hB hBq HD hn2
    generalize ns.length = n at *
    go_enter Try.func30, Try.ntmps30
    go_upto_region 2 with fail
    go_cut [0, 1, 2] (fun v0 v1 v2 wx => Hid (v0 = .pointer (some ⟨q, 0, none⟩) ∧ v1 = .int .i64 (a : Int) ∧ v2 = .int .u32 0 ∧ wx = (w.setCell ⟨g, a * 4, none⟩ (.int .i64 (n : Int))).drew))
    case first =>
      refine wp_region_held_drew (S := (fun W => W.cell? ⟨q, 0, none⟩ = some (.slice (some ⟨g, 0, none⟩) n cap))) (by kernel_rfl) (HS.out _ (Below.refl _ _).drew) (fun hHeld => ?_)
      refine wpAnyH_take (i := 0) (v := ?_) (by simp only [List.getElem?_toArray, List.getElem?_cons_zero] <;> rfl) (by kernel_rfl) (by kernel_rfl) (by kernel_rfl) (by exact fun _ _ _ h => h) (Or.inl ⟨by rfl, ?_⟩) hHeld ?_
      rotate_left
      · intro w hSw; (try dsimp only at hSw); go_simp; (try with_reducible rfl)
      (try simp only [Act.put, List.setIfInBounds_toArray, List.set_cons_zero, List.set_cons_succ])
      refine wpAnyH_take (i := 1) (v := ?_) (by simp only [List.getElem?_toArray, List.getElem?_cons_succ, List.getElem?_cons_zero] <;> rfl) (by kernel_rfl) (by kernel_rfl) (by kernel_rfl) (by exact fun _ _ _ h => h) (Or.inl ⟨by rfl, ?_⟩) hHeld ?_
      rotate_left
      · intro w hSw; (try dsimp only at hSw); go_simp; (try with_reducible rfl)
      (try simp only [Act.put, List.setIfInBounds_toArray, List.set_cons_zero, List.set_cons_succ])
      refine wpAnyH_take (i := 2) (v := ?_) (by simp only [List.getElem?_toArray, List.getElem?_cons_succ, List.getElem?_cons_zero] <;> rfl) (by kernel_rfl) (by kernel_rfl) (by kernel_rfl) (by exact fun _ _ _ h => h) (Or.inl ⟨by rfl, ?_⟩) hHeld ?_
      rotate_left
      · intro w hSw; (try dsimp only at hSw); go_simp; (try with_reducible rfl)
      (try simp only [Act.put, List.setIfInBounds_toArray, List.set_cons_zero, List.set_cons_succ])
      refine wpAnyH_take (i := 3) (v := ?_) (by simp only [List.getElem?_toArray, List.getElem?_cons_succ, List.getElem?_cons_zero] <;> rfl) (by kernel_rfl) (by kernel_rfl) (by kernel_rfl) (by exact fun _ _ _ h => h) (Or.inl ⟨by rfl, ?_⟩) hHeld ?_
      rotate_left
      · intro w hSw; (try dsimp only at hSw); go_simp; (try with_reducible rfl)
      (try simp only [Act.put, List.setIfInBounds_toArray, List.set_cons_zero, List.set_cons_succ])
      refine wpAnyH_take (i := 4) (v := ?_) (by simp only [List.getElem?_toArray, List.getElem?_cons_succ, List.getElem?_cons_zero] <;> rfl) (by kernel_rfl) (by kernel_rfl) (by kernel_rfl) (by exact fun _ _ _ h => h) (Or.inl ⟨by rfl, ?_⟩) hHeld ?_
      rotate_left
      · intro w hSw; (try dsimp only at hSw); go_simp; (try with_reducible rfl)
      (try simp only [Act.put, List.setIfInBounds_toArray, List.set_cons_zero, List.set_cons_succ])
      refine wpAnyH_take (i := 5) (v := ?_) (by simp only [List.getElem?_toArray, List.getElem?_cons_succ, List.getElem?_cons_zero] <;> rfl) (by kernel_rfl) (by kernel_rfl) (by kernel_rfl) (by exact fun _ _ _ h => h) (Or.inl ⟨by rfl, ?_⟩) hHeld ?_
      rotate_left
      · intro w hSw; (try dsimp only at hSw); go_simp; (try with_reducible rfl)
      (try simp only [Act.put, List.setIfInBounds_toArray, List.set_cons_zero, List.set_cons_succ])
      refine wpAnyH_take (i := 6) (v := ?_) (by simp only [List.getElem?_toArray, List.getElem?_cons_succ, List.getElem?_cons_zero] <;> rfl) (by kernel_rfl) (by kernel_rfl) (by kernel_rfl) (by exact fun _ _ _ h => h) (Or.inl ⟨by rfl, ?_⟩) hHeld ?_
      rotate_left
      · intro w hSw; (try dsimp only at hSw); go_simp; (try with_reducible rfl)
      (try simp only [Act.put, List.setIfInBounds_toArray, List.set_cons_zero, List.set_cons_succ])
      refine wpAnyH_take (i := 7) (v := ?_) (by simp only [List.getElem?_toArray, List.getElem?_cons_succ, List.getElem?_cons_zero] <;> rfl) (by kernel_rfl) (by kernel_rfl) (by kernel_rfl) (by exact fun _ _ _ h => h) (Or.inl ⟨by rfl, ?_⟩) hHeld ?_
      rotate_left
      · intro w hSw; (try dsimp only at hSw); go_simp; (try with_reducible rfl)
      (try simp only [Act.put, List.setIfInBounds_toArray, List.set_cons_zero, List.set_cons_succ])
      refine wpAnyH_take (i := 8) (v := ?_) (by simp only [List.getElem?_toArray, List.getElem?_cons_succ, List.getElem?_cons_zero] <;> rfl) (by kernel_rfl) (by kernel_rfl) (by kernel_rfl) (by exact fun _ _ _ h => h) (Or.inl ⟨by rfl, ?_⟩) hHeld ?_
      rotate_left
      · intro w hSw; (try dsimp only at hSw); go_simp; (try with_reducible rfl)
      (try simp only [Act.put, List.setIfInBounds_toArray, List.set_cons_zero, List.set_cons_succ])
      refine wpAnyH_take (i := 9) (v := ?_) (by simp only [List.getElem?_toArray, List.getElem?_cons_succ, List.getElem?_cons_zero] <;> rfl) (by kernel_rfl) (by kernel_rfl) (by kernel_rfl) (by exact fun _ _ _ h => h) (Or.inl ⟨by rfl, ?_⟩) hHeld ?_
      rotate_left
      · intro w hSw; (try dsimp only at hSw); go_simp; (try with_reducible rfl)
      (try simp only [Act.put, List.setIfInBounds_toArray, List.set_cons_zero, List.set_cons_succ])
      refine wpAnyH_take (i := 10) (v := ?_) (by simp only [List.getElem?_toArray, List.getElem?_cons_succ, List.getElem?_cons_zero] <;> rfl) (by kernel_rfl) (by kernel_rfl) (by kernel_rfl) (by exact fun _ _ _ h => h) (Or.inl ⟨by rfl, ?_⟩) hHeld ?_
      rotate_left
      · intro w hSw; (try dsimp only at hSw); go_simp; (try with_reducible rfl)
      (try simp only [Act.put, List.setIfInBounds_toArray, List.set_cons_zero, List.set_cons_succ])
      refine wpAnyH_take (i := 11) (v := ?_) (by simp only [List.getElem?_toArray, List.getElem?_cons_succ, List.getElem?_cons_zero] <;> rfl) (by kernel_rfl) (by kernel_rfl) (by kernel_rfl) (by exact fun _ _ _ h => h) (Or.inl ⟨by rfl, ?_⟩) hHeld ?_
      rotate_left
      · intro w hSw; (try dsimp only at hSw); go_simp; (try with_reducible rfl)
      (try simp only [Act.put, List.setIfInBounds_toArray, List.set_cons_zero, List.set_cons_succ])
      refine wpAnyH_take (i := 12) (v := ?_) (by simp only [List.getElem?_toArray, List.getElem?_cons_succ, List.getElem?_cons_zero] <;> rfl) (by kernel_rfl) (by kernel_rfl) (by kernel_rfl) (by exact fun _ _ _ h => h) (Or.inl ⟨by rfl, ?_⟩) hHeld ?_
      rotate_left
      · intro w hSw; (try dsimp only at hSw); go_simp; (try with_reducible rfl)
      (try simp only [Act.put, List.setIfInBounds_toArray, List.set_cons_zero, List.set_cons_succ])
      refine wpAnyH_take (i := 13) (v := ?_) (by simp only [List.getElem?_toArray, List.getElem?_cons_succ, List.getElem?_cons_zero] <;> rfl) (by kernel_rfl) (by kernel_rfl) (by kernel_rfl) (by exact fun _ _ _ h => h) (Or.inl ⟨by rfl, ?_⟩) hHeld ?_
      rotate_left
      · intro w hSw; (try dsimp only at hSw); go_simp; (try with_reducible rfl)
      (try simp only [Act.put, List.setIfInBounds_toArray, List.set_cons_zero, List.set_cons_succ])
      refine wpAnyH_ready (rs := [14]) (by kernel_rfl) (by simp) ?_
      refine AllReadyH.cons (by simp only [List.getElem?_toArray, List.getElem?_cons_succ, List.getElem?_cons_zero] <;> rfl) (fun K hK => ?_) AllReadyH.nil
      go_simp
      refine hK.out _ _ ?_ (fun hHeld => ?_)
      · exact HK.out
      clear hK K
      (try simp only [Act.put, List.setIfInBounds_toArray, List.set_cons_zero, List.set_cons_succ])
      refine wpAnyH_done (by kernel_rfl) ?_ _
      go_wp2_with fail
      go_meet
      exact Lib.hid ⟨rfl, rfl, rfl, rfl⟩
    case rest =>
      obtain ⟨rfl, rfl, rfl, rfl⟩ := hcut.out
      obtain ⟨p1, p2, p3⟩ := HP.out
      obtain ⟨x1, x2, x3, x4⟩ := HC.out
      have p4 : Kept B w (w.setCell ⟨g, a * 4, none⟩ (.int .i64 (n : Int))).drew := ⟨p3.os, p3.tape, p3.output, p3.size, p3.low, p3.pf⟩
      obtain ⟨g', cap', W, r2, c1, c2, t1, t2, c3, c4⟩ := node_append (w := (w.setCell ⟨g, a * 4, none⟩ (.int .i64 (n : Int))).drew) p1 p2 (Nat.le_trans x1 p4.size) x2 x3
      have c5 := (c4 a (by rw [HM.out]; exact x4)).1
      rw [HDD.out] at c5
      rw [HM.out] at r2 c1 t1 t2 c3 c5
      have HF := Lib.hid (HE.out _ (p4.trans t2) t1)
      have hcap' : n + 1 ≤ cap' := by
        obtain ⟨g2, cap2, e1, e2⟩ := t1.ex
        have e3 := cell_of_row _ q 0 _ _ _ e1
        rw [c3] at e3
        simp at e3
        obtain ⟨_, _, _, e4⟩ := row_at e2
        simp [HM.out] at e4
        omega
      have cq2 : (w.setCell ⟨g, a * 4, none⟩ (.int .i64 (n : Int))).drew.cell? ⟨q, 0, none⟩ = some (.slice (some ⟨g, 0, none⟩) n cap) := HK.out
      have HCC := Lib.hid (And.intro c3 c5)
      clear c3 c5
      clear hcut HP HE HK HC HM HDD HS p1 p2 p3 p4 t1 t2 c4 cq cd fz x1 x2 x3 x4
      generalize (w.setCell ⟨g, a * 4, none⟩ (.int .i64 (n : Int))).drew = w2 at *
      have ha3 : (a : Int) < (n : Int) + 1 := by omega
      go_upto_region 4 with (at_builtin; refine wpList_append_eq rfl (.tmp 36) (.tmp 38) 57 57 rfl rfl rfl r2 ?_)
      generalize W.setCell ⟨q, 0, none⟩ (.slice (some ⟨g', 0, none⟩) (n + 1) cap') = W3 at *
      obtain ⟨c3, c5⟩ := HCC.out
      clear r2 c1 c2 cq2
      go_wp2
      go_ret
      exact HF.out
  · have hc : ((d : Int) == 0) = false := by simp; omega
    have HE : Hid (Belowed B w q ns a 0 (.returned (.int .i64 (d : Int))) w) := Lib.hid ⟨ns, d, rfl, .inl ⟨by rw [hdn]; exact c, rfl, hdn.symm⟩, h, Kept.refl _ _⟩
    clear h hr hq hd hdn
    generalize ns.length = n at *
    go_enter Try.func30, Try.ntmps30
    go_wp2
    go_ret
    exact HE.out

set_option maxRecDepth 100000 in
set_option maxHeartbeats 4000000 in
theorem below1 {B : Nat} {w : World} {q : Nat} {ns : List Nd} (h : TrieAt B w q ns) (hB : B ≤ w.heap.size) {a : Nat} (ha : a < ns.length) (hn : ns.length ≤ 100000) :
    Calls Try.prog 30 #[.pointer (some ⟨q, 0, none⟩), .int .i64 (a : Int), .int .u32 1] w (Belowed B w q ns a 1) := by
  obtain ⟨g, cap, hq, hr⟩ := h.ex
  have hBq := h.bq
  have cq : w.cell? ⟨q, 0, none⟩ = some (.slice (some ⟨g, 0, none⟩) ns.length cap) := cell_of_row w q 0 _ _ _ hq
  have cd := (node_cells hr ha).2.1
  have fz := World.ownsRow.frozenAt hr (a * 4 + 1)
  have hcap : ns.length ≤ cap := by obtain ⟨_, _, _, hc⟩ := row_at hr; exact hc
  obtain ⟨d, hd⟩ : ∃ d, d = (nd ns a).d1 := ⟨_, rfl⟩
  rw [← hd] at cd
  have hdn : (nd ns a).dn 1 = d := by rw [hd]; rfl
  have ha' : (a : Int) < (ns.length : Int) := by omega
  by_cases c : d = 0
  · subst c
    have HP : Hid _ := Lib.hid (node_stored (i := 1) hq hr hB ha (by decide) (.int .i64 (ns.length : Int)) ((nd ns a).put 1 ns.length) rfl)
    rw [show a * 4 + 1 = a * 4 + 1 by omega] at HP
    have HS : Hid (∀ W, Below w.heap.size w W → (fun W => W.cell? ⟨q, 0, none⟩ = some (.slice (some ⟨g, 0, none⟩) ns.length cap)) W) := Lib.hid (fun W hW => (hW.cell (p := ⟨q, 0, none⟩) h.lt).trans cq)
    have HK : Hid ((w.setCell ⟨g, a * 4 + 1, none⟩ (.int .i64 (ns.length : Int))).cell? ⟨q, 0, none⟩ = some (.slice (some ⟨g, 0, none⟩) ns.length cap)) := Lib.hid (by
      have := cell_of_row _ q 0 _ _ _ HP.out.1
      simpa using this)
    have HE : Hid (∀ W, Kept B w W → TrieAt B W q (ns.set a ((nd ns a).put 1 ns.length) ++ [Nd.zero]) → Belowed B w q ns a 1 (.returned (.int .i64 (ns.length : Int))) W) := Lib.hid (fun W h1 h2 => ⟨_, ns.length, rfl, .inr ⟨hdn, rfl, rfl⟩, h2, h1⟩)
    have HD : Hid (nd (ns.set a ((nd ns a).put 1 ns.length)) a = (nd ns a).put 1 ns.length) := Lib.hid (by rw [nd_set _ ha, if_pos rfl])
    have ha2 : a < (ns.set a ((nd ns a).put 1 ns.length)).length := by rw [List.length_set]; exact ha
    generalize hms : ns.set a ((nd ns a).put 1 ns.length) = ms at *
    have hml : ms.length = ns.length := by rw [← hms, List.length_set]
    rw [hml] at ha2
    have HM := Lib.hid hml
    have hn2 : ms.length ≤ 100000 := by omega
    have HC := Lib.hid (And.intro hB (And.intro hBq (And.intro hn2 ha2)))
    have HDD : Hid ((nd ms a).d1 = ns.length) := Lib.hid (by rw [HD.out]; rfl)
    clear h hr hq hd hdn hms hml hB hBq HD hn2
    generalize ns.length = n at *
    go_enter Try.func30, Try.ntmps30
    go_upto_region 2 with fail
    go_cut [0, 1, 2] (fun v0 v1 v2 wx => Hid (v0 = .pointer (some ⟨q, 0, none⟩) ∧ v1 = .int .i64 (a : Int) ∧ v2 = .int .u32 1 ∧ wx = (w.setCell ⟨g, a * 4 + 1, none⟩ (.int .i64 (n : Int))).drew))
    case first =>
      refine wp_region_held_drew (S := (fun W => W.cell? ⟨q, 0, none⟩ = some (.slice (some ⟨g, 0, none⟩) n cap))) (by kernel_rfl) (HS.out _ (Below.refl _ _).drew) (fun hHeld => ?_)
      refine wpAnyH_take (i := 0) (v := ?_) (by simp only [List.getElem?_toArray, List.getElem?_cons_zero] <;> rfl) (by kernel_rfl) (by kernel_rfl) (by kernel_rfl) (by exact fun _ _ _ h => h) (Or.inl ⟨by rfl, ?_⟩) hHeld ?_
      rotate_left
      · intro w hSw; (try dsimp only at hSw); go_simp; (try with_reducible rfl)
      (try simp only [Act.put, List.setIfInBounds_toArray, List.set_cons_zero, List.set_cons_succ])
      refine wpAnyH_take (i := 1) (v := ?_) (by simp only [List.getElem?_toArray, List.getElem?_cons_succ, List.getElem?_cons_zero] <;> rfl) (by kernel_rfl) (by kernel_rfl) (by kernel_rfl) (by exact fun _ _ _ h => h) (Or.inl ⟨by rfl, ?_⟩) hHeld ?_
      rotate_left
      · intro w hSw; (try dsimp only at hSw); go_simp; (try with_reducible rfl)
      (try simp only [Act.put, List.setIfInBounds_toArray, List.set_cons_zero, List.set_cons_succ])
      refine wpAnyH_take (i := 2) (v := ?_) (by simp only [List.getElem?_toArray, List.getElem?_cons_succ, List.getElem?_cons_zero] <;> rfl) (by kernel_rfl) (by kernel_rfl) (by kernel_rfl) (by exact fun _ _ _ h => h) (Or.inl ⟨by rfl, ?_⟩) hHeld ?_
      rotate_left
      · intro w hSw; (try dsimp only at hSw); go_simp; (try with_reducible rfl)
      (try simp only [Act.put, List.setIfInBounds_toArray, List.set_cons_zero, List.set_cons_succ])
      refine wpAnyH_take (i := 3) (v := ?_) (by simp only [List.getElem?_toArray, List.getElem?_cons_succ, List.getElem?_cons_zero] <;> rfl) (by kernel_rfl) (by kernel_rfl) (by kernel_rfl) (by exact fun _ _ _ h => h) (Or.inl ⟨by rfl, ?_⟩) hHeld ?_
      rotate_left
      · intro w hSw; (try dsimp only at hSw); go_simp; (try with_reducible rfl)
      (try simp only [Act.put, List.setIfInBounds_toArray, List.set_cons_zero, List.set_cons_succ])
      refine wpAnyH_take (i := 4) (v := ?_) (by simp only [List.getElem?_toArray, List.getElem?_cons_succ, List.getElem?_cons_zero] <;> rfl) (by kernel_rfl) (by kernel_rfl) (by kernel_rfl) (by exact fun _ _ _ h => h) (Or.inl ⟨by rfl, ?_⟩) hHeld ?_
      rotate_left
      · intro w hSw; (try dsimp only at hSw); go_simp; (try with_reducible rfl)
      (try simp only [Act.put, List.setIfInBounds_toArray, List.set_cons_zero, List.set_cons_succ])
      refine wpAnyH_take (i := 5) (v := ?_) (by simp only [List.getElem?_toArray, List.getElem?_cons_succ, List.getElem?_cons_zero] <;> rfl) (by kernel_rfl) (by kernel_rfl) (by kernel_rfl) (by exact fun _ _ _ h => h) (Or.inl ⟨by rfl, ?_⟩) hHeld ?_
      rotate_left
      · intro w hSw; (try dsimp only at hSw); go_simp; (try with_reducible rfl)
      (try simp only [Act.put, List.setIfInBounds_toArray, List.set_cons_zero, List.set_cons_succ])
      refine wpAnyH_take (i := 6) (v := ?_) (by simp only [List.getElem?_toArray, List.getElem?_cons_succ, List.getElem?_cons_zero] <;> rfl) (by kernel_rfl) (by kernel_rfl) (by kernel_rfl) (by exact fun _ _ _ h => h) (Or.inl ⟨by rfl, ?_⟩) hHeld ?_
      rotate_left
      · intro w hSw; (try dsimp only at hSw); go_simp; (try with_reducible rfl)
      (try simp only [Act.put, List.setIfInBounds_toArray, List.set_cons_zero, List.set_cons_succ])
      refine wpAnyH_take (i := 7) (v := ?_) (by simp only [List.getElem?_toArray, List.getElem?_cons_succ, List.getElem?_cons_zero] <;> rfl) (by kernel_rfl) (by kernel_rfl) (by kernel_rfl) (by exact fun _ _ _ h => h) (Or.inl ⟨by rfl, ?_⟩) hHeld ?_
      rotate_left
      · intro w hSw; (try dsimp only at hSw); go_simp; (try with_reducible rfl)
      (try simp only [Act.put, List.setIfInBounds_toArray, List.set_cons_zero, List.set_cons_succ])
      refine wpAnyH_take (i := 8) (v := ?_) (by simp only [List.getElem?_toArray, List.getElem?_cons_succ, List.getElem?_cons_zero] <;> rfl) (by kernel_rfl) (by kernel_rfl) (by kernel_rfl) (by exact fun _ _ _ h => h) (Or.inl ⟨by rfl, ?_⟩) hHeld ?_
      rotate_left
      · intro w hSw; (try dsimp only at hSw); go_simp; (try with_reducible rfl)
      (try simp only [Act.put, List.setIfInBounds_toArray, List.set_cons_zero, List.set_cons_succ])
      refine wpAnyH_take (i := 9) (v := ?_) (by simp only [List.getElem?_toArray, List.getElem?_cons_succ, List.getElem?_cons_zero] <;> rfl) (by kernel_rfl) (by kernel_rfl) (by kernel_rfl) (by exact fun _ _ _ h => h) (Or.inl ⟨by rfl, ?_⟩) hHeld ?_
      rotate_left
      · intro w hSw; (try dsimp only at hSw); go_simp; (try with_reducible rfl)
      (try simp only [Act.put, List.setIfInBounds_toArray, List.set_cons_zero, List.set_cons_succ])
      refine wpAnyH_take (i := 10) (v := ?_) (by simp only [List.getElem?_toArray, List.getElem?_cons_succ, List.getElem?_cons_zero] <;> rfl) (by kernel_rfl) (by kernel_rfl) (by kernel_rfl) (by exact fun _ _ _ h => h) (Or.inl ⟨by rfl, ?_⟩) hHeld ?_
      rotate_left
      · intro w hSw; (try dsimp only at hSw); go_simp; (try with_reducible rfl)
      (try simp only [Act.put, List.setIfInBounds_toArray, List.set_cons_zero, List.set_cons_succ])
      refine wpAnyH_take (i := 11) (v := ?_) (by simp only [List.getElem?_toArray, List.getElem?_cons_succ, List.getElem?_cons_zero] <;> rfl) (by kernel_rfl) (by kernel_rfl) (by kernel_rfl) (by exact fun _ _ _ h => h) (Or.inl ⟨by rfl, ?_⟩) hHeld ?_
      rotate_left
      · intro w hSw; (try dsimp only at hSw); go_simp; (try with_reducible rfl)
      (try simp only [Act.put, List.setIfInBounds_toArray, List.set_cons_zero, List.set_cons_succ])
      refine wpAnyH_take (i := 12) (v := ?_) (by simp only [List.getElem?_toArray, List.getElem?_cons_succ, List.getElem?_cons_zero] <;> rfl) (by kernel_rfl) (by kernel_rfl) (by kernel_rfl) (by exact fun _ _ _ h => h) (Or.inl ⟨by rfl, ?_⟩) hHeld ?_
      rotate_left
      · intro w hSw; (try dsimp only at hSw); go_simp; (try with_reducible rfl)
      (try simp only [Act.put, List.setIfInBounds_toArray, List.set_cons_zero, List.set_cons_succ])
      refine wpAnyH_take (i := 13) (v := ?_) (by simp only [List.getElem?_toArray, List.getElem?_cons_succ, List.getElem?_cons_zero] <;> rfl) (by kernel_rfl) (by kernel_rfl) (by kernel_rfl) (by exact fun _ _ _ h => h) (Or.inl ⟨by rfl, ?_⟩) hHeld ?_
      rotate_left
      · intro w hSw; (try dsimp only at hSw); go_simp; (try with_reducible rfl)
      (try simp only [Act.put, List.setIfInBounds_toArray, List.set_cons_zero, List.set_cons_succ])
      refine wpAnyH_ready (rs := [14]) (by kernel_rfl) (by simp) ?_
      refine AllReadyH.cons (by simp only [List.getElem?_toArray, List.getElem?_cons_succ, List.getElem?_cons_zero] <;> rfl) (fun K hK => ?_) AllReadyH.nil
      go_simp
      refine hK.out _ _ ?_ (fun hHeld => ?_)
      · exact HK.out
      clear hK K
      (try simp only [Act.put, List.setIfInBounds_toArray, List.set_cons_zero, List.set_cons_succ])
      refine wpAnyH_done (by kernel_rfl) ?_ _
      go_wp2_with fail
      go_meet
      exact Lib.hid ⟨rfl, rfl, rfl, rfl⟩
    case rest =>
      obtain ⟨rfl, rfl, rfl, rfl⟩ := hcut.out
      obtain ⟨p1, p2, p3⟩ := HP.out
      obtain ⟨x1, x2, x3, x4⟩ := HC.out
      have p4 : Kept B w (w.setCell ⟨g, a * 4 + 1, none⟩ (.int .i64 (n : Int))).drew := ⟨p3.os, p3.tape, p3.output, p3.size, p3.low, p3.pf⟩
      obtain ⟨g', cap', W, r2, c1, c2, t1, t2, c3, c4⟩ := node_append (w := (w.setCell ⟨g, a * 4 + 1, none⟩ (.int .i64 (n : Int))).drew) p1 p2 (Nat.le_trans x1 p4.size) x2 x3
      have c5 := (c4 a (by rw [HM.out]; exact x4)).2
      rw [HDD.out] at c5
      rw [HM.out] at r2 c1 t1 t2 c3 c5
      have HF := Lib.hid (HE.out _ (p4.trans t2) t1)
      have hcap' : n + 1 ≤ cap' := by
        obtain ⟨g2, cap2, e1, e2⟩ := t1.ex
        have e3 := cell_of_row _ q 0 _ _ _ e1
        rw [c3] at e3
        simp at e3
        obtain ⟨_, _, _, e4⟩ := row_at e2
        simp [HM.out] at e4
        omega
      have cq2 : (w.setCell ⟨g, a * 4 + 1, none⟩ (.int .i64 (n : Int))).drew.cell? ⟨q, 0, none⟩ = some (.slice (some ⟨g, 0, none⟩) n cap) := HK.out
      have HCC := Lib.hid (And.intro c3 c5)
      clear c3 c5
      clear hcut HP HE HK HC HM HDD HS p1 p2 p3 p4 t1 t2 c4 cq cd fz x1 x2 x3 x4
      generalize (w.setCell ⟨g, a * 4 + 1, none⟩ (.int .i64 (n : Int))).drew = w2 at *
      have ha3 : (a : Int) < (n : Int) + 1 := by omega
      go_upto_region 4 with (at_builtin; refine wpList_append_eq rfl (.tmp 36) (.tmp 38) 57 57 rfl rfl rfl r2 ?_)
      generalize W.setCell ⟨q, 0, none⟩ (.slice (some ⟨g', 0, none⟩) (n + 1) cap') = W3 at *
      obtain ⟨c3, c5⟩ := HCC.out
      clear r2 c1 c2 cq2
      go_wp2
      go_ret
      exact HF.out
  · have hc : ((d : Int) == 0) = false := by simp; omega
    have HE : Hid (Belowed B w q ns a 1 (.returned (.int .i64 (d : Int))) w) := Lib.hid ⟨ns, d, rfl, .inl ⟨by rw [hdn]; exact c, rfl, hdn.symm⟩, h, Kept.refl _ _⟩
    clear h hr hq hd hdn
    generalize ns.length = n at *
    go_enter Try.func30, Try.ntmps30
    go_wp2
    go_ret
    exact HE.out

end Go.Proofs.Ytcadjgmglaimdaa
