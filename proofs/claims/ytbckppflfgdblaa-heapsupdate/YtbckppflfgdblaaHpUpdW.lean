/- HeapsUpdate returns true for every argument: the walk. -/
import Derived.Test.YtbckppflfgdblaaHpUpd
import Derived.Deep.DeepCutAuto
import Derived.Deep.DrawnRows
namespace Go.Proofs.Ytbckppflfgdblaa
open Go.RowKit Go.Maps
attribute [local go_sem ↓] Go.wp_at_zero Go.wp_at_succ

/-- What Res says of the error codes: their cells. -/
theorem Res.errs {os : List Op4} {w1 w : World} {E P L : Value} (h : Res os w1 E P L w) {n : Nat} (hn : os.length = n) (h0 : 0 < n) :
    ∃ g cap, E = .slice (some ⟨g, 0, none⟩) n cap ∧ ∀ j, j < n → w.cell? ⟨g, j, none⟩ = some (.int .i64 ((run q0 os).1.getD j 0)) := by
  subst hn
  have hl := run_length q0 os
  obtain ⟨A, cap, rfl, hA⟩ := h.1.form
  obtain ⟨g, rfl, hc⟩ := hA (by omega)
  rw [hl] at hc ⊢
  exact ⟨g, cap, rfl, hc⟩

theorem below_drew {w w' : World} (h : Below w.drew.heap.size w.drew w') : Below w.heap.size w w' := ⟨h.os, h.tape, h.output, h.size, h.block⟩
theorem chain2 {w1 w2 w3 : World} (h : Below w1.heap.size w1 w2) (k : Below w2.heap.size w2 w3) : Below w1.heap.size w1 w3 := h.trans (k.mono h.size)

theorem upd_codes {os : List Op4} {n : Nat} (hn : os.length = n) {x hi lo : Int} (hM : ((run q0 os).2.2.M x).isSome = false) :
    (run q0 (os ++ [⟨4, x, hi, lo⟩])).1.getD n 0 = 3 ∧ (run q0 (os ++ [⟨3, x, 0, 0⟩, ⟨1, x, hi, lo⟩])).1.getD n 0 = 3 := by
  subst hn
  obtain ⟨h1, h2⟩ := update_not (hi := hi) (lo := lo) hM
  have hl := run_length q0 os
  rw [run_append, run_append]
  simp only [run, h1, h2, List.getD_eq_getElem?_getD]
  rw [List.getElem?_append_right (by omega), List.getElem?_append_right (by omega), hl, Nat.sub_self]
  exact ⟨rfl, rfl⟩
theorem upd_same {os : List Op4} {n : Nat} (hn : os.length = n) {x hi lo : Int} (hM : ((run q0 os).2.2.M x).isSome = true) :
    (run q0 (os ++ [⟨4, x, hi, lo⟩])).1.getD n 0 = 0 ∧ (run q0 (os ++ [⟨3, x, 0, 0⟩, ⟨1, x, hi, lo⟩])).1.getD n 0 = 0 ∧ (run q0 (os ++ [⟨3, x, 0, 0⟩, ⟨1, x, hi, lo⟩])).1.getD (n + 1) 0 = 0 ∧
      (run q0 (os ++ [⟨3, x, 0, 0⟩, ⟨1, x, hi, lo⟩])).2 = (run q0 (os ++ [⟨4, x, hi, lo⟩])).2 := by
  subst hn
  obtain ⟨h1, h2, h3⟩ := update_same (hi := hi) (lo := lo) (good_q0.run os) hM
  have hl := run_length q0 os
  rw [run_append, run_append]
  simp only [run, h1, h2, h3, List.getD_eq_getElem?_getD, List.append_nil]
  rw [List.getElem?_append_right (by omega), List.getElem?_append_right (by omega), List.getElem?_append_right (by omega), hl, Nat.sub_self, Nat.add_sub_cancel_left]
  exact ⟨rfl, rfl, rfl, trivial⟩

theorem upd_below {os os' : List Op4} {w V W1 wc : World} {E P L E' P' L' : Value} {kb : Nat} (h0 : Below kb w V) (hk : kb < V.heap.size) (h1 : Res os V E P L W1) (h2 : Res os' W1 E' P' L' wc) (k : Nat) : Below kb w (wc.drewN k) := by
  have h3 := chain2 h1.2.2.2 h2.2.2.2
  have h4 := h0.trans (h3.mono (Nat.le_of_lt hk))
  exact ⟨h4.os, h4.tape, h4.output, h4.size, h4.block⟩
/-- The same numbers popped, the same left. -/
theorem upd_eq {os os' : List Op4} {V W1 wc : World} {E P L E' P' L' : Value} (h1 : Res os V E P L W1) (h2 : Res os' W1 E' P' L' wc) (ht : (run q0 os').2 = (run q0 os).2) (hn : os.length ≤ 5000000000000) (k : Nat) :
    (Calls Try.prog 11 #[P, P'] (wc.drewN k) fun e w' => e = .returned (.bool true) ∧ ∃ k, w' = wc.drewN k) ∧
    (Calls Try.prog 11 #[L, L'] (wc.drewN k) fun e w' => e = .returned (.bool true) ∧ ∃ k, w' = wc.drewN k) := by
  obtain ⟨b1, b2⟩ := run_bound q0 os
  have h0 : q0.n = 0 := rfl
  have k1 := h1.below h2.2.2.2
  have k2 := h2
  unfold Res at k1 k2
  rw [ht] at k2
  constructor
  · refine (equal_ints (w := wc.drewN k) k1.2.1 k2.2.1 (by omega)).mono ?_
    rintro e w' ⟨rfl, j, rfl⟩
    exact ⟨by simp, k + j, World.drewN_drewN _ _ _⟩
  · refine (equal_ints (w := wc.drewN k) k1.2.2.1 k2.2.2.1 (by rw [drainF_length]; omega)).mono ?_
    rintro e w' ⟨rfl, j, rfl⟩
    exact ⟨by simp, k + j, World.drewN_drewN _ _ _⟩

set_option maxRecDepth 100000 in
set_option maxHeartbeats 4000000 in
theorem update_law {w : World} {A : Option Addr} {cap b off n : Nat} {os : List Op4} (h : Came w A cap b off os) (hlen : os.length = n) {x hi lo : Int} (hx : I64 x) :
    Calls Try.prog 5 #[.slice A n cap, .int .i64 x, .agg #[.int .u64 hi, .int .u64 lo]] w fun e w' => e = .returned (.bool true) ∧ Below w.heap.size w w' := by
  obtain ⟨V, hV⟩ : ∃ V, w.alloc (.cells #[.int .u64 hi, .int .u64 lo] 35) = V := ⟨_, rfl⟩
  have hb0 : Below w.heap.size w V := by rw [← hV]; exact (Below.refl _ _).alloc (Nat.le_refl _) _
  have hs : w.heap.size < V.heap.size := by rw [← hV]; simp
  have k0 : V.cell? ⟨w.heap.size, 0, none⟩ = some (.int .u64 hi) := by rw [← hV]; exact cell_of_row _ _ _ _ _ _ (heap_alloc_new w _)
  have k1 : V.cell? ⟨w.heap.size, 1, none⟩ = some (.int .u64 lo) := by rw [← hV]; exact cell_of_row _ _ _ _ _ _ (heap_alloc_new w _)
  have HK := Lib.hid (And.intro k0 (And.intro k1 hs))
  have HC := Lib.hid (And.intro (h.below hb0) (And.intro hlen hx))
  have HB0 := Lib.hid hb0
  clear h hlen hx hb0 hs k0 k1
  have HAl := Lib.hid alive_any
  go_enter Try.func5, Try.ntmps5
  go_wp2_with fail
  refine (HAl.out _).mono ?_
  rintro e w2 ⟨rfl, hb2⟩
  have d0 : w2.cell? ⟨w.heap.size, 0, none⟩ = some (.int .u64 hi) := by rw [(bcell hb2).1 _ _ HK.out.2.2]; exact HK.out.1
  have d1 : w2.cell? ⟨w.heap.size, 1, none⟩ = some (.int .u64 lo) := by rw [(bcell hb2).1 _ _ HK.out.2.2]; exact HK.out.2.1
  have hk2 : w.heap.size < w2.heap.size := Nat.lt_of_lt_of_le HK.out.2.2 hb2.size
  have HB2 := Lib.hid hb2
  clear hb2
  have HC1 := Lib.hid (clone_then (w2 := w2.drew) (ns := [⟨4, x, hi, lo⟩]) HC.out.1 (by intro o ho; rw [List.mem_singleton] at ho; subst ho; exact HC.out.2.2) (Nat.succ_pos _) (Nat.le_succ _) HB2.out.drew (c := #[.int .i64 4, .int .i64 x, .int .u64 hi, .int .u64 lo]) rfl HC.out.2.1 (m := 1) rfl)
  have HC2 := Lib.hid (then_clone (w2 := w2) (ns := [⟨4, x, hi, lo⟩]) HC.out.1 (by intro o ho; rw [List.mem_singleton] at ho; subst ho; exact HC.out.2.2) (Nat.succ_pos _) (Nat.le_succ _) HB2.out (c := #[.int .i64 4, .int .i64 x, .int .u64 hi, .int .u64 lo]) rfl HC.out.2.1 (m := 1) rfl rfl)
  generalize hkb : w.heap.size = kb at *
  have HKB := Lib.hid hkb
  clear hkb
  go_upto_region 3 with fail
  go_cut [7, 8, 9] (fun a b c wx => Hid (Res (os ++ [⟨4, x, hi, lo⟩]) V a b c wx))
  case first =>
    go_region_law (first
      | (refine step_append_eq rfl (.tmp 18) (.tmp 22) 22 rfl (by rfl) (by rfl) r2 ?_)
      | (go_simp; go_at_call 13; (first | (with_reducible refine HC1.out.mono ?_) | (with_reducible refine HC2.out.mono ?_)); rintro e w3 ⟨v, rfl, hb3, g, cap', W, r2, HPl⟩; have c0 : w3.cell? ⟨kb, 0, none⟩ = some (.int .u64 hi) := ((bcell hb3).1 _ _ hk2).trans d0; have c1 : w3.cell? ⟨kb, 1, none⟩ = some (.int .u64 lo) := ((bcell hb3).1 _ _ hk2).trans d1; clear hb3)
      | (go_simp; go_at_call 8; refine HPl.out.mono ?_; rintro e w5 ⟨E, P, L, rfl, hR⟩; have HR := Lib.hid hR; clear hR))
    all_goals
      go_wp2_with fail
      go_meet
      exact HR
  case rest =>
    have HR1 := hcut
    obtain ⟨W1, rfl⟩ : ∃ W1, W1 = wc := ⟨_, rfl⟩
    clear hcut HC1 HC2 d0 d1 hk2
    have d0 : W1.cell? ⟨kb, 0, none⟩ = some (.int .u64 hi) := by rw [(bcell HR1.out.2.2.2).1 _ _ HK.out.2.2]; exact HK.out.1
    have d1 : W1.cell? ⟨kb, 1, none⟩ = some (.int .u64 lo) := by rw [(bcell HR1.out.2.2.2).1 _ _ HK.out.2.2]; exact HK.out.2.1
    have hk2 : kb < W1.heap.size := Nat.lt_of_lt_of_le HK.out.2.2 HR1.out.2.2.2.size
    have HC1 := Lib.hid (clone_then (w1 := W1) (w2 := W1.drew) (ns := [⟨3, x, 0, 0⟩, ⟨1, x, hi, lo⟩]) (HC.out.1.below HR1.out.2.2.2) (by intro o ho; simp only [List.mem_cons, List.not_mem_nil, or_false] at ho; rcases ho with rfl | rfl <;> exact HC.out.2.2) (Nat.succ_pos _) (Nat.le_refl _) (Below.refl _ _).drew (c := #[.int .i64 3, .int .i64 x, .int .u64 0, .int .u64 0, .int .i64 1, .int .i64 x, .int .u64 hi, .int .u64 lo]) rfl HC.out.2.1 (m := 2) rfl)
    have HC2 := Lib.hid (then_clone (w1 := W1) (w2 := W1) (ns := [⟨3, x, 0, 0⟩, ⟨1, x, hi, lo⟩]) (HC.out.1.below HR1.out.2.2.2) (by intro o ho; simp only [List.mem_cons, List.not_mem_nil, or_false] at ho; rcases ho with rfl | rfl <;> exact HC.out.2.2) (Nat.succ_pos _) (Nat.le_refl _) (Below.refl _ _) (c := #[.int .i64 3, .int .i64 x, .int .u64 0, .int .u64 0, .int .i64 1, .int .i64 x, .int .u64 hi, .int .u64 lo]) rfl HC.out.2.1 (m := 2) rfl rfl)
    go_upto_region 4 with fail
    go_cut [10, 11, 12] (fun a b c wx => Hid (Res (os ++ [⟨3, x, 0, 0⟩, ⟨1, x, hi, lo⟩]) W1 a b c wx))
    case first =>
      go_region_law (first
        | (refine step_append_eq rfl (.tmp 30) (.tmp 36) 22 rfl (by rfl) (by rfl) r2 ?_)
        | (go_simp; go_at_call 13; (first | (with_reducible refine HC1.out.mono ?_) | (with_reducible refine HC2.out.mono ?_)); rintro e w3 ⟨v, rfl, hb3, g, cap', W, r2, HPl⟩; have c0 : w3.cell? ⟨kb, 0, none⟩ = some (.int .u64 hi) := ((bcell hb3).1 _ _ hk2).trans d0; have c1 : w3.cell? ⟨kb, 1, none⟩ = some (.int .u64 lo) := ((bcell hb3).1 _ _ hk2).trans d1; clear hb3)
        | (go_simp; go_at_call 8; refine HPl.out.mono ?_; rintro e w5 ⟨E, P, L, rfl, hR⟩; have HR := Lib.hid hR; clear hR))
      all_goals
        go_wp2_with fail
        go_meet
        exact HR
    case rest =>
      have HR2 := hcut
      clear hcut HC1 HC2 d0 d1 hk2
      obtain ⟨g1, c1, rfl, e1⟩ := (HR1.out.below HR2.out.2.2.2).errs (n := n + 1) (by rw [List.length_append, HC.out.2.1]; rfl) (by omega)
      obtain ⟨g2, c2, rfl, e2⟩ := HR2.out.errs (n := n + 2) (by rw [List.length_append, HC.out.2.1]; rfl) (by omega)
      have hnn : n ≤ 5000000000000 := by have := HC.out.1.size; have := HC.out.2.1; omega
      have f1 := e1 n (by omega)
      have f2 := e2 n (by omega)
      have f3 := e2 (n + 1) (by omega)
      clear e1 e2
      have n1 : (n : Int) < (n : Int) + 1 := by omega
      have n2 : (n : Int) < (n : Int) + 2 := by omega
      have n3 : (n : Int) + 1 < (n : Int) + 2 := by omega
      cases hM : ((run q0 os).2.2.M x).isSome with
      | false =>
        have t1 := (upd_codes (hi := hi) (lo := lo) HC.out.2.1 hM).1
        have t2 := (upd_codes (hi := hi) (lo := lo) HC.out.2.1 hM).2
        rw [t1] at f1
        rw [t2] at f2
        clear f3 t1 t2
        clear hM
        go_wp2
        go_quiet (fail)
        go_wp2
        go_ret
        exact ⟨rfl, by rw [HKB.out]; exact upd_below HB0.out HK.out.2.2 HR1.out HR2.out _⟩
      | true =>
        obtain ⟨t1, t2, t3, t4⟩ := upd_same (hi := hi) (lo := lo) HC.out.2.1 hM
        rw [t1] at f1
        rw [t2] at f2
        rw [t3] at f3
        have HT := Lib.hid t4
        clear t1 t2 t3 t4 hM
        have HQ := Lib.hid (upd_eq HR1.out HR2.out HT.out (by rw [List.length_append, HC.out.2.1, List.length_singleton]; have := HC.out.1.size; have := HC.out.2.1; omega))
        go_wp2_with fail
        refine (HQ.out 0).1.mono ?_
        rintro e w8 ⟨rfl, k8, rfl⟩
        go_wp2_with fail
        refine (HQ.out k8).2.mono ?_
        rintro e w9 ⟨rfl, k9, rfl⟩
        go_wp2
        go_ret
        exact ⟨rfl, by rw [HKB.out]; exact upd_below HB0.out HK.out.2.2 HR1.out HR2.out _⟩

end Go.Proofs.Ytbckppflfgdblaa
