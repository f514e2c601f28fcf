/- The reference's ERead. -/
import Derived.Test.YtmigfemkbdehbaaHdE1
namespace Go.Proofs.Ytmigfemkbdehbaa
open Go.RowKit Go.Maps

theorem ret_head {h h' : Hd} {e e' : Int} (a : h = h') (b : e = e') : Ending.returned (.tuple #[.agg h.cells.toArray, .int .i64 e]) = .returned (.tuple #[.agg h'.cells.toArray, .int .i64 e']) := by rw [a, b]
theorem ports_iff {bs : List Int} (h : Bytes bs) : portsIn bs = (ported (nth bs 9) && (decide (nth bs 7 = 0) && decide (nth bs 6 % 32 = 0))) := by
  obtain ⟨a, b⟩ := nth_byte h 7
  obtain ⟨c, d⟩ := nth_byte h 6
  unfold portsIn wordAt
  congr 1
  rw [Bool.eq_iff_iff]
  simp
  omega
def headsE (bs : List Int) (L : Int) : Hd := { heads0 bs with ln := L }
theorem readHd_bad {bs : List Int} (h : unread bs ≠ 0) : readHd bs = Hd.none := by unfold readHd; rw [if_neg h]

set_option maxRecDepth 100000 in
set_option maxHeartbeats 4000000 in
theorem eRead_any {w : World} {A : Option Addr} {bs : List Int} (h : Lies w A bs) {cap : Nat} (hc : bs.length ≤ cap) :
    Calls Try.prog 11 #[.slice A bs.length cap] w fun e w' => e = .returned (.tuple #[.agg (readHd bs).cells.toArray, .int .i64 (unread bs)]) ∧ Below w.heap.size w w' := by
  have hq0 : HeadAt (w.alloc (.cells #[.int .u8 0, .int .u8 0, .int .u8 0, .int .u8 0, .int .u8 0, .int .u8 0, .int .u8 0, .int .u8 0, .int .i64 0, .int .i64 0, .int .i64 0, .int .i64 0, .int .i64 0] 24)) w.heap.size Hd.none := headAt_new w Hd.none
  have hb0 : Below w.heap.size w (w.alloc (.cells #[.int .u8 0, .int .u8 0, .int .u8 0, .int .u8 0, .int .u8 0, .int .u8 0, .int .u8 0, .int .u8 0, .int .i64 0, .int .i64 0, .int .i64 0, .int .i64 0, .int .i64 0] 24)) := (Below.refl _ _).alloc (Nat.le_refl _) _
  have hsz : (w.alloc (.cells #[.int .u8 0, .int .u8 0, .int .u8 0, .int .u8 0, .int .u8 0, .int .u8 0, .int .u8 0, .int .u8 0, .int .i64 0, .int .i64 0, .int .i64 0, .int .i64 0, .int .i64 0] 24)).heap.size = w.heap.size + 1 := by simp
  have hq1 : HeadAt ((w.alloc (.cells #[.int .u8 0, .int .u8 0, .int .u8 0, .int .u8 0, .int .u8 0, .int .u8 0, .int .u8 0, .int .u8 0, .int .i64 0, .int .i64 0, .int .i64 0, .int .i64 0, .int .i64 0] 24)).alloc (.cells #[.int .u8 0, .int .u8 0, .int .u8 0, .int .u8 0, .int .u8 0, .int .u8 0, .int .u8 0, .int .u8 0, .int .i64 0, .int .i64 0, .int .i64 0, .int .i64 0, .int .i64 0] 24)) (w.heap.size + 1) Hd.none := by
    have := headAt_new (w.alloc (.cells #[.int .u8 0, .int .u8 0, .int .u8 0, .int .u8 0, .int .u8 0, .int .u8 0, .int .u8 0, .int .u8 0, .int .i64 0, .int .i64 0, .int .i64 0, .int .i64 0, .int .i64 0] 24)) Hd.none
    rw [hsz] at this
    exact this
  have hb1 : Below (w.heap.size + 1) (w.alloc (.cells #[.int .u8 0, .int .u8 0, .int .u8 0, .int .u8 0, .int .u8 0, .int .u8 0, .int .u8 0, .int .u8 0, .int .i64 0, .int .i64 0, .int .i64 0, .int .i64 0, .int .i64 0] 24)) (((w.alloc (.cells #[.int .u8 0, .int .u8 0, .int .u8 0, .int .u8 0, .int .u8 0, .int .u8 0, .int .u8 0, .int .u8 0, .int .i64 0, .int .i64 0, .int .i64 0, .int .i64 0, .int .i64 0] 24)).alloc (.cells #[.int .u8 0, .int .u8 0, .int .u8 0, .int .u8 0, .int .u8 0, .int .u8 0, .int .u8 0, .int .u8 0, .int .i64 0, .int .i64 0, .int .i64 0, .int .i64 0, .int .i64 0] 24)).setRow (w.heap.size + 1) Hd.none.cells.toArray) := below_setRow ((Below.refl _ _).alloc (by rw [hsz]; exact Nat.le_refl _) _) (Nat.le_refl _) _
  have HG := Lib.hid (And.intro (hq0.below hb1 (Nat.lt_succ_self _)) (And.intro (hq1.stored Hd.none) (hb0.trans (hb1.mono (Nat.le_succ _)))))
  have HQ1 := Lib.hid hq1
  have hl := h.len
  clear hq0 hb0 hsz hq1 hb1
  by_cases hs : bs.length < 20
  · have HR : Hid (unread bs = 8) := Lib.hid (by unfold unread; rw [if_pos hs])
    have HE : Hid (readHd bs = Hd.none) := Lib.hid (readHd_bad (by rw [HR.out]; decide))
    generalize unread bs = R at *
    generalize readHd bs = X at *
    generalize bs.length = n at *
    have i1 : (n : Int) < 20 := by omega
    clear h
    go_enter Try.func11, Try.ntmps11
    go_upto_region 2 with (refine wpList_store_head rfl (.tmp 4) (.tmp 8) rfl (w.heap.size + 1) Hd.none Hd.none rfl rfl HQ1.out ?_)
    generalize ((w.alloc (.cells #[.int .u8 0, .int .u8 0, .int .u8 0, .int .u8 0, .int .u8 0, .int .u8 0, .int .u8 0, .int .u8 0, .int .i64 0, .int .i64 0, .int .i64 0, .int .i64 0, .int .i64 0] 24)).alloc (.cells #[.int .u8 0, .int .u8 0, .int .u8 0, .int .u8 0, .int .u8 0, .int .u8 0, .int .u8 0, .int .u8 0, .int .i64 0, .int .i64 0, .int .i64 0, .int .i64 0, .int .i64 0] 24)).setRow (w.heap.size + 1) Hd.none.cells.toArray = W at *
    clear HQ1
    have HRb := Lib.hid (And.intro (HG.out.1.stored Hd.none) (below_setRow HG.out.2.2 (Nat.le_refl _) Hd.none.cells.toArray))
    go_wp2_with (first
      | refine wpList_load_head rfl (.tmp 4) rfl (w.heap.size + 1) Hd.none rfl HG.out.2.1 ?_
      | refine wpList_store_head rfl (.tmp 2) (.tmp 12) rfl w.heap.size Hd.none Hd.none rfl rfl HG.out.1 ?_)
    exact bodyPost_ret_by (results_head rfl _ _ rfl HRb.out.1) rfl ⟨by rw [HE.out, HR.out]; rfl, HRb.out.2⟩
  have HR : Hid (unread bs = _) := Lib.hid (by unfold unread; rw [if_neg hs])
  have hby := h.bytes
  have hz : 0 ≤ hsize bs ∧ hsize bs ≤ 60 := by
    obtain ⟨a, b⟩ := nth_byte h.bytes 0
    unfold hsize
    exact ⟨by omega, by omega⟩
  obtain ⟨z, hz'⟩ := Int.eq_ofNat_of_zero_le hz.1
  have hL := wordAt_half h.bytes 2
  have H4 : ∀ W, Below w.heap.size w W → z ≤ bs.length → Calls Try.prog 20 #[.slice A z cap] W fun e w' => e = .returned (.int .i64 (fd (tot 0 (bs.take z)))) ∧ W = w' := fun W hW hm => by
    have := dof_any ((h.below hW).take z) cap
    rwa [List.length_take, Nat.min_eq_left hm] at this
  have H4' := Lib.hid H4
  obtain ⟨b, off, rfl, c0, x0, x1⟩ := h.nth (i := 0) (by omega)
  have hcell : ∀ W, Below w.heap.size w W → ∀ i, i < bs.length → W.cell? ⟨b, off + i, none⟩ = some (.int .u8 (nth bs i)) ∧ 0 ≤ nth bs i ∧ nth bs i < 256 := fun W hW i hi => by
    obtain ⟨b', off', e, c, c2⟩ := (h.below hW).nth hi
    injection e with e
    injection e with e1 e2
    subst e1 e2
    exact ⟨c, c2⟩
  have HC := Lib.hid hcell
  have hzx : nth bs 0 % 16 * 4 = (z : Int) := by rw [← hz']; unfold hsize; omega
  have HZZ := Lib.hid hz'
  have HHB := Lib.hid hby
  rw [hz'] at HR hz
  rw [show ((z : Int)).toNat = z from Int.toNat_natCast z] at HR
  obtain ⟨n, hn⟩ : ∃ n, bs.length = n := ⟨_, rfl⟩
  rw [hn] at hs hl hc HR H4' HC ⊢
  have HNN := Lib.hid hn
  obtain ⟨z0, z1⟩ := hz
  obtain ⟨L0, L1⟩ := hL
  have i1 : ¬ ((n : Int) < 20) := by omega
  have i2 : (0 : Int) < (n : Int) := by omega
  have i3 : (2 : Int) < (n : Int) := by omega
  have i4 : (3 : Int) < (n : Int) := by omega
  have wz : IntKind.i64.wrap (nth bs 0 % 16 * 4) = (z : Int) := by rw [hzx]; exact wraps_i64 _ (by omega) (by omega)
  clear h hz' H4 hcell hby c0 hn
  go_enter Try.func11, Try.ntmps11
  go_upto_region 2 with (refine wpList_store_head rfl (.tmp 4) (.tmp 8) rfl (w.heap.size + 1) Hd.none Hd.none rfl rfl HQ1.out ?_)
  generalize ((w.alloc (.cells #[.int .u8 0, .int .u8 0, .int .u8 0, .int .u8 0, .int .u8 0, .int .u8 0, .int .u8 0, .int .u8 0, .int .i64 0, .int .i64 0, .int .i64 0, .int .i64 0, .int .i64 0] 24)).alloc (.cells #[.int .u8 0, .int .u8 0, .int .u8 0, .int .u8 0, .int .u8 0, .int .u8 0, .int .u8 0, .int .u8 0, .int .i64 0, .int .i64 0, .int .i64 0, .int .i64 0, .int .i64 0] 24)).setRow (w.heap.size + 1) Hd.none.cells.toArray = W at *
  have c0 := (HC.out _ HG.out.2.2 0 (by omega)).1
  have c2 := (HC.out _ HG.out.2.2 2 (by omega)).1
  have c3 := (HC.out _ HG.out.2.2 3 (by omega)).1
  obtain ⟨y2a, y2b⟩ := (HC.out _ HG.out.2.2 2 (by omega)).2
  obtain ⟨y3a, y3b⟩ := (HC.out _ HG.out.2.2 3 (by omega)).2
  rw [Nat.add_zero] at c0
  clear HQ1
  go_upto_region 5 with fail
  by_cases a1 : nth bs 0 / 16 = 4
  case neg =>
    have a1' : (nth bs 0 / 16 != 4) = true := by simpa using a1
    have HRR := Lib.hid (HR.out.trans (if_pos (by omega)))
    have HE : Hid (readHd bs = Hd.none) := Lib.hid (readHd_bad (by rw [HRR.out]; decide))
    clear HC H4' HR
    have HRb := Lib.hid (And.intro (HG.out.1.stored Hd.none) (below_setRow HG.out.2.2 (Nat.le_refl _) Hd.none.cells.toArray))
    go_wp2_with (first
      | refine wpList_load_head rfl (.tmp 4) rfl (w.heap.size + 1) Hd.none rfl HG.out.2.1 ?_
      | refine wpList_store_head rfl (.tmp 2) (.tmp 29) rfl w.heap.size Hd.none Hd.none rfl rfl HG.out.1 ?_)
    exact bodyPost_ret_by (results_head rfl _ _ rfl HRb.out.1) rfl ⟨by rw [HE.out, HRR.out]; rfl, HRb.out.2⟩
  have a1' : (nth bs 0 / 16 != 4) = false := by simpa using a1
  by_cases a2 : z < 20
  · have a2' : (z : Int) < 20 := by omega
    have HRR := Lib.hid (HR.out.trans (if_pos (by omega)))
    have HE : Hid (readHd bs = Hd.none) := Lib.hid (readHd_bad (by rw [HRR.out]; decide))
    clear HC H4' HR
    have HRb := Lib.hid (And.intro (HG.out.1.stored Hd.none) (below_setRow HG.out.2.2 (Nat.le_refl _) Hd.none.cells.toArray))
    go_wp2_with (first
      | refine wpList_load_head rfl (.tmp 4) rfl (w.heap.size + 1) Hd.none rfl HG.out.2.1 ?_
      | refine wpList_store_head rfl (.tmp 2) (.tmp 29) rfl w.heap.size Hd.none Hd.none rfl rfl HG.out.1 ?_)
    exact bodyPost_ret_by (results_head rfl _ _ rfl HRb.out.1) rfl ⟨by rw [HE.out, HRR.out]; rfl, HRb.out.2⟩
  have a2' : ¬ (z : Int) < 20 := by omega
  have HR2 := Lib.hid (HR.out.trans (if_neg (by omega)))
  have hw2 : wordAt bs 2 = nth bs 2 * 256 + nth bs 3 := rfl
  obtain ⟨L, hLe⟩ : ∃ L, L = wordAt bs 2 := ⟨_, rfl⟩
  rw [← hLe] at HR2 L0 L1 hw2
  have HLE := Lib.hid hLe
  have wl : IntKind.i64.wrap (nth bs 2 * 256 + nth bs 3) = L := by rw [← hw2]; exact wraps_i64 _ (by omega) (by omega)
  clear HR hLe hw2
  go_upto_region 7 with fail
  go_quiet (fail)
  obtain ⟨W2, hW2⟩ : ∃ W2, W2 = W.drewN nq := ⟨_, rfl⟩
  rw [← hW2]
  have HG2 : Hid (HeadAt W2 w.heap.size Hd.none ∧ HeadAt W2 (w.heap.size + 1) Hd.none ∧ Below w.heap.size w W2) := Lib.hid (by rw [hW2]; exact ⟨HG.out.1, HG.out.2.1, below_drewN HG.out.2.2 _⟩)
  clear hW2 HG c0 c2 c3
  by_cases a5 : L < (z : Int)
  · have hmax : (if (z : Int) < L then L else (z : Int)) = (z : Int) := if_neg (by omega)
    have hnl : ¬ ((z : Int) < L) := by omega
    by_cases a3 : n < z
    · have a3' : (n : Int) < (z : Int) := by omega
      have HRR := Lib.hid (HR2.out.trans (if_pos (by omega)))
      have HE : Hid (readHd bs = Hd.none) := Lib.hid (readHd_bad (by rw [HRR.out]; decide))
      clear HC H4' HR2
      have HRb := Lib.hid (And.intro (HG2.out.1.stored Hd.none) (below_setRow HG2.out.2.2 (Nat.le_refl _) Hd.none.cells.toArray))
      go_wp2_with (first
        | refine wpList_load_head rfl (.tmp 4) rfl (w.heap.size + 1) Hd.none rfl HG2.out.2.1 ?_
        | refine wpList_store_head rfl (.tmp 2) (.tmp 46) rfl w.heap.size Hd.none Hd.none rfl rfl HG2.out.1 ?_)
      exact bodyPost_ret_by (results_head rfl _ _ rfl HRb.out.1) rfl ⟨by rw [HE.out, HRR.out]; rfl, HRb.out.2⟩
    · have a3' : ¬ (n : Int) < (z : Int) := by omega
      have HRR := Lib.hid ((HR2.out.trans (if_neg (by omega))).trans (if_pos a5))
      have HE : Hid (readHd bs = Hd.none) := Lib.hid (readHd_bad (by rw [HRR.out]; decide))
      clear HC H4' HR2
      have HRb := Lib.hid (And.intro (HG2.out.1.stored Hd.none) (below_setRow HG2.out.2.2 (Nat.le_refl _) Hd.none.cells.toArray))
      go_wp2_with (first
        | refine wpList_load_head rfl (.tmp 4) rfl (w.heap.size + 1) Hd.none rfl HG2.out.2.1 ?_
        | refine wpList_store_head rfl (.tmp 2) (.tmp 50) rfl w.heap.size Hd.none Hd.none rfl rfl HG2.out.1 ?_)
      exact bodyPost_ret_by (results_head rfl _ _ rfl HRb.out.1) rfl ⟨by rw [HE.out, HRR.out]; rfl, HRb.out.2⟩
  have hmax : (if (z : Int) < L then L else (z : Int)) = L := by split <;> omega
  by_cases a4 : (n : Int) < L
  · have HRR := Lib.hid (HR2.out.trans (if_pos (by omega)))
    have HE : Hid (readHd bs = Hd.none) := Lib.hid (readHd_bad (by rw [HRR.out]; decide))
    clear HC H4' HR2
    have HRb := Lib.hid (And.intro (HG2.out.1.stored Hd.none) (below_setRow HG2.out.2.2 (Nat.le_refl _) Hd.none.cells.toArray))
    go_wp2_with (first
      | refine wpList_load_head rfl (.tmp 4) rfl (w.heap.size + 1) Hd.none rfl HG2.out.2.1 ?_
      | refine wpList_store_head rfl (.tmp 2) (.tmp 46) rfl w.heap.size Hd.none Hd.none rfl rfl HG2.out.1 ?_)
    exact bodyPost_ret_by (results_head rfl _ _ rfl HRb.out.1) rfl ⟨by rw [HE.out, HRR.out]; rfl, HRb.out.2⟩
  have HR4 := Lib.hid ((HR2.out.trans (if_neg (by omega))).trans (if_neg a5))
  have zc : (z : Int) ≤ (cap : Int) := by omega
  have HDO := Lib.hid (H4'.out _ HG2.out.2.2 (by omega))
  generalize fd (tot 0 (List.take z bs)) = Tt at *
  clear HR2 H4'
  go_wp2_with fail
  refine HDO.out.mono ?_
  rintro e w9 ⟨rfl, rfl⟩
  clear HDO
  by_cases a6 : Tt = 65535
  case neg =>
    have a6' : (Tt != 65535) = true := by simpa using a6
    have HRR := Lib.hid (HR4.out.trans (if_pos a6))
    have HE : Hid (readHd bs = Hd.none) := Lib.hid (readHd_bad (by rw [HRR.out]; decide))
    clear HC HR4
    have HRb := Lib.hid (And.intro (HG2.out.1.stored Hd.none) (below_setRow HG2.out.2.2 (Nat.le_refl _) Hd.none.cells.toArray))
    go_wp2_with (first
      | refine wpList_load_head rfl (.tmp 4) rfl (w.heap.size + 1) Hd.none rfl HG2.out.2.1 ?_
      | refine wpList_store_head rfl (.tmp 2) (.tmp 56) rfl w.heap.size Hd.none Hd.none rfl rfl HG2.out.1 ?_)
    exact bodyPost_ret_by (results_head rfl _ _ rfl HRb.out.1) rfl ⟨by rw [HE.out, HRR.out]; rfl, HRb.out.2⟩
  subst a6
  have HR5 := Lib.hid (HR4.out.trans (if_neg (by simp)))
  clear HR4
  have hS : ∀ V, Below w.heap.size w V → (V.cell? ⟨b, off + 1, none⟩ = some (.int .u8 (nth bs 1)) ∧ V.cell? ⟨b, off + 9, none⟩ = some (.int .u8 (nth bs 9)) ∧ V.cell? ⟨b, off + 12, none⟩ = some (.int .u8 (nth bs 12)) ∧ V.cell? ⟨b, off + 13, none⟩ = some (.int .u8 (nth bs 13)) ∧ V.cell? ⟨b, off + 14, none⟩ = some (.int .u8 (nth bs 14)) ∧ V.cell? ⟨b, off + 15, none⟩ = some (.int .u8 (nth bs 15)) ∧ V.cell? ⟨b, off + 16, none⟩ = some (.int .u8 (nth bs 16)) ∧ V.cell? ⟨b, off + 17, none⟩ = some (.int .u8 (nth bs 17)) ∧ V.cell? ⟨b, off + 18, none⟩ = some (.int .u8 (nth bs 18)) ∧ V.cell? ⟨b, off + 19, none⟩ = some (.int .u8 (nth bs 19))) := fun V hV => by
    have hce : ∀ i, i < 20 → V.cell? ⟨b, off + i, none⟩ = some (.int .u8 (nth bs i)) := fun i hi => (HC.out V hV i (by omega)).1
    exact ⟨hce 1 (by omega), hce 9 (by omega), hce 12 (by omega), hce 13 (by omega), hce 14 (by omega), hce 15 (by omega), hce 16 (by omega), hce 17 (by omega), hce 18 (by omega), hce 19 (by omega)⟩
  have HS := Lib.hid hS
  clear hS
  obtain ⟨y1a, y1b⟩ := (HC.out _ HG2.out.2.2 1 (by omega)).2
  obtain ⟨y9a, y9b⟩ := (HC.out _ HG2.out.2.2 9 (by omega)).2
  obtain ⟨y12a, y12b⟩ := (HC.out _ HG2.out.2.2 12 (by omega)).2
  obtain ⟨y13a, y13b⟩ := (HC.out _ HG2.out.2.2 13 (by omega)).2
  obtain ⟨y14a, y14b⟩ := (HC.out _ HG2.out.2.2 14 (by omega)).2
  obtain ⟨y15a, y15b⟩ := (HC.out _ HG2.out.2.2 15 (by omega)).2
  obtain ⟨y16a, y16b⟩ := (HC.out _ HG2.out.2.2 16 (by omega)).2
  obtain ⟨y17a, y17b⟩ := (HC.out _ HG2.out.2.2 17 (by omega)).2
  obtain ⟨y18a, y18b⟩ := (HC.out _ HG2.out.2.2 18 (by omega)).2
  obtain ⟨y19a, y19b⟩ := (HC.out _ HG2.out.2.2 19 (by omega)).2
  have k4 : (9 : Int) < (n : Int) := by omega
  have k5 : (1 : Int) < (n : Int) := by omega
  have k6 : (16 : Int) ≤ (cap : Int) := by omega
  have k1 : (20 : Int) ≤ (cap : Int) := by omega
  have k2 : ¬ cap = 12 := by omega
  have k3 : ¬ cap = 16 := by omega
  have hArr := arr_run
  have hw9 := wraps_i64 (nth bs 9) (by omega) (by omega)
  have hw1 := wraps_i64 (nth bs 1) (by omega) (by omega)
  have hq4 : (nth bs 1).tdiv 4 = nth bs 1 / 4 := Int.tdiv_eq_ediv_of_nonneg (by omega)
  have hq5 := wraps_i64 (nth bs 1 / 4) (by omega) (by omega)
  obtain ⟨q2, hq2⟩ : ∃ q2, W2.heap.size = q2 := ⟨_, rfl⟩
  have hge : w.heap.size + 2 ≤ q2 := by rw [← hq2]; exact HG2.out.2.1.lt
  have HA : Hid (HeadAt (W2.drew.alloc (.cells #[.int .u8 0, .int .u8 0, .int .u8 0, .int .u8 0, .int .u8 0, .int .u8 0, .int .u8 0, .int .u8 0, .int .i64 0, .int .i64 0, .int .i64 0, .int .i64 0, .int .i64 0] 24)) q2 Hd.none) := Lib.hid (by have := headAt_new W2.drew Hd.none; rw [show W2.drew.heap.size = q2 from hq2] at this; exact this)
  have hbA : Below q2 W2 ((W2.drew.alloc (.cells #[.int .u8 0, .int .u8 0, .int .u8 0, .int .u8 0, .int .u8 0, .int .u8 0, .int .u8 0, .int .u8 0, .int .i64 0, .int .i64 0, .int .i64 0, .int .i64 0, .int .i64 0] 24)).setRow q2 (headsE bs L).cells.toArray) := below_setRow ((Below.refl _ _).drew.alloc (by rw [← hq2]; exact Nat.le_refl _) _) (Nat.le_refl _) _
  have HG3 := Lib.hid (And.intro (HG2.out.1.below hbA (by omega)) (And.intro (HG2.out.2.1.below hbA (by omega)) (And.intro (HA.out.stored (headsE bs L)) (HG2.out.2.2.trans (hbA.mono (by omega))))))
  clear hbA
  go_upto_region 14 with fail
  go_cut [7] (fun v wx => Hid (v = .pointer (some ⟨q2, 0, none⟩) ∧ HeadAt wx w.heap.size Hd.none ∧ HeadAt wx (w.heap.size + 1) Hd.none ∧ HeadAt wx q2 (headsE bs L) ∧ Below w.heap.size w wx))
  case first =>
    refine wp_region_held_drew (S := (fun V => V.cell? ⟨b, off + 1, none⟩ = some (.int .u8 (nth bs 1)) ∧ V.cell? ⟨b, off + 9, none⟩ = some (.int .u8 (nth bs 9)) ∧ V.cell? ⟨b, off + 12, none⟩ = some (.int .u8 (nth bs 12)) ∧ V.cell? ⟨b, off + 13, none⟩ = some (.int .u8 (nth bs 13)) ∧ V.cell? ⟨b, off + 14, none⟩ = some (.int .u8 (nth bs 14)) ∧ V.cell? ⟨b, off + 15, none⟩ = some (.int .u8 (nth bs 15)) ∧ V.cell? ⟨b, off + 16, none⟩ = some (.int .u8 (nth bs 16)) ∧ V.cell? ⟨b, off + 17, none⟩ = some (.int .u8 (nth bs 17)) ∧ V.cell? ⟨b, off + 18, none⟩ = some (.int .u8 (nth bs 18)) ∧ V.cell? ⟨b, off + 19, none⟩ = some (.int .u8 (nth bs 19)))) (by kernel_rfl) (HS.out _ HG2.out.2.2.drew) (fun hHeld => ?_)
    refine wpAnyH_take (i := 0) (v := ?_) (by simp only [List.getElem?_toArray, List.getElem?_cons_zero] <;> rfl) (by kernel_rfl) (by kernel_rfl) (by kernel_rfl) (by exact fun _ _ _ h => h) (Or.inl ⟨by rfl, ?_⟩) hHeld ?_
    rotate_left
    · intro w hSw; (try dsimp only at hSw); go_simp; (try with_reducible rfl)
    (try simp only [Act.put, List.setIfInBounds_toArray, List.set_cons_zero, List.set_cons_succ])
    refine wpAnyH_take (i := 1) (v := ?_) (by simp only [List.getElem?_toArray, List.getElem?_cons_succ, List.getElem?_cons_zero] <;> rfl) (by kernel_rfl) (by kernel_rfl) (by kernel_rfl) (by exact fun _ _ _ h => h) (Or.inl ⟨by rfl, ?_⟩) hHeld ?_
    rotate_left
    · intro w hSw; (try dsimp only at hSw); go_simp; (try with_reducible rfl)
    (try simp only [Act.put, List.setIfInBounds_toArray, List.set_cons_zero, List.set_cons_succ])
    refine wpAnyH_take (i := 2) (v := ?_) (by simp only [List.getElem?_toArray, List.getElem?_cons_succ, List.getElem?_cons_zero] <;> rfl) (by kernel_rfl) (by kernel_rfl) (by kernel_rfl) (by exact fun _ _ _ h => h) (Or.inl ⟨by rfl, ?_⟩) hHeld ?_
    rotate_left
    · intro w hSw; (try dsimp only at hSw); go_simp; (try with_reducible rfl)
    (try simp only [Act.put, List.setIfInBounds_toArray, List.set_cons_zero, List.set_cons_succ])
    refine wpAnyH_take (i := 3) (v := ?_) (by simp only [List.getElem?_toArray, List.getElem?_cons_succ, List.getElem?_cons_zero] <;> rfl) (by kernel_rfl) (by kernel_rfl) (by kernel_rfl) (by exact fun _ _ _ h => h) (Or.inl ⟨by rfl, ?_⟩) hHeld ?_
    rotate_left
    · intro w hSw; (try dsimp only at hSw); go_simp; (try with_reducible rfl)
    (try simp only [Act.put, List.setIfInBounds_toArray, List.set_cons_zero, List.set_cons_succ])
    refine wpAnyH_take (i := 4) (v := ?_) (by simp only [List.getElem?_toArray, List.getElem?_cons_succ, List.getElem?_cons_zero] <;> rfl) (by kernel_rfl) (by kernel_rfl) (by kernel_rfl) (by exact fun _ _ _ h => h) (Or.inl ⟨by rfl, ?_⟩) hHeld ?_
    rotate_left
    · intro w hSw; (try dsimp only at hSw); go_simp; (try with_reducible rfl)
    (try simp only [Act.put, List.setIfInBounds_toArray, List.set_cons_zero, List.set_cons_succ])
    refine wpAnyH_take (i := 5) (v := ?_) (by simp only [List.getElem?_toArray, List.getElem?_cons_succ, List.getElem?_cons_zero] <;> rfl) (by kernel_rfl) (by kernel_rfl) (by kernel_rfl) (by exact fun _ _ _ h => h) (Or.inl ⟨by rfl, ?_⟩) hHeld ?_
    rotate_left
    · intro w hSw; (try dsimp only at hSw); go_simp; (try with_reducible rfl)
    (try simp only [Act.put, List.setIfInBounds_toArray, List.set_cons_zero, List.set_cons_succ])
    refine wpAnyH_take (i := 6) (v := ?_) (by simp only [List.getElem?_toArray, List.getElem?_cons_succ, List.getElem?_cons_zero] <;> rfl) (by kernel_rfl) (by kernel_rfl) (by kernel_rfl) (by exact fun _ _ _ h => h) (Or.inl ⟨by rfl, ?_⟩) hHeld ?_
    rotate_left
    · intro w hSw; (try dsimp only at hSw); go_simp; (try with_reducible rfl)
    (try simp only [Act.put, List.setIfInBounds_toArray, List.set_cons_zero, List.set_cons_succ])
    refine wpAnyH_take (i := 7) (v := ?_) (by simp only [List.getElem?_toArray, List.getElem?_cons_succ, List.getElem?_cons_zero] <;> rfl) (by kernel_rfl) (by kernel_rfl) (by kernel_rfl) (by exact fun _ _ _ h => h) (Or.inl ⟨by rfl, ?_⟩) hHeld ?_
    rotate_left
    · intro w hSw; (try dsimp only at hSw); go_simp; (try with_reducible rfl)
    (try simp only [Act.put, List.setIfInBounds_toArray, List.set_cons_zero, List.set_cons_succ])
    refine wpAnyH_take (i := 8) (v := ?_) (by simp only [List.getElem?_toArray, List.getElem?_cons_succ, List.getElem?_cons_zero] <;> rfl) (by kernel_rfl) (by kernel_rfl) (by kernel_rfl) (by exact fun _ _ _ h => h) (Or.inl ⟨by rfl, ?_⟩) hHeld ?_
    rotate_left
    · intro w hSw; (try dsimp only at hSw); go_simp; (try with_reducible rfl)
    (try simp only [Act.put, List.setIfInBounds_toArray, List.set_cons_zero, List.set_cons_succ])
    refine wpAnyH_take (i := 9) (v := ?_) (by simp only [List.getElem?_toArray, List.getElem?_cons_succ, List.getElem?_cons_zero] <;> rfl) (by kernel_rfl) (by kernel_rfl) (by kernel_rfl) (by exact fun _ _ _ h => h) (Or.inl ⟨by rfl, ?_⟩) hHeld ?_
    rotate_left
    · intro w hSw; (try dsimp only at hSw); go_simp; (try with_reducible rfl)
    (try simp only [Act.put, List.setIfInBounds_toArray, List.set_cons_zero, List.set_cons_succ])
    refine wpAnyH_take (i := 10) (v := ?_) (by simp only [List.getElem?_toArray, List.getElem?_cons_succ, List.getElem?_cons_zero] <;> rfl) (by kernel_rfl) (by kernel_rfl) (by kernel_rfl) (by exact fun _ _ _ h => h) (Or.inl ⟨by rfl, ?_⟩) hHeld ?_
    rotate_left
    · intro w hSw; (try dsimp only at hSw); go_simp; (try with_reducible rfl)
    (try simp only [Act.put, List.setIfInBounds_toArray, List.set_cons_zero, List.set_cons_succ])
    refine wpAnyH_take (i := 11) (v := ?_) (by simp only [List.getElem?_toArray, List.getElem?_cons_succ, List.getElem?_cons_zero] <;> rfl) (by kernel_rfl) (by kernel_rfl) (by kernel_rfl) (by exact fun _ _ _ h => h) (Or.inl ⟨by rfl, ?_⟩) hHeld ?_
    rotate_left
    · intro w hSw; (try dsimp only at hSw); go_simp; (try with_reducible rfl)
    (try simp only [Act.put, List.setIfInBounds_toArray, List.set_cons_zero, List.set_cons_succ])
    refine wpAnyH_take (i := 12) (v := ?_) (by simp only [List.getElem?_toArray, List.getElem?_cons_succ, List.getElem?_cons_zero] <;> rfl) (by kernel_rfl) (by kernel_rfl) (by kernel_rfl) (by exact fun _ _ _ h => h) (Or.inl ⟨by rfl, ?_⟩) hHeld ?_
    rotate_left
    · intro w hSw; (try dsimp only at hSw); go_simp; (try with_reducible rfl)
    (try simp only [Act.put, List.setIfInBounds_toArray, List.set_cons_zero, List.set_cons_succ])
    refine wpAnyH_take (i := 13) (v := ?_) (by simp only [List.getElem?_toArray, List.getElem?_cons_succ, List.getElem?_cons_zero] <;> rfl) (by kernel_rfl) (by kernel_rfl) (by kernel_rfl) (by exact fun _ _ _ h => h) (Or.inl ⟨by rfl, ?_⟩) hHeld ?_
    rotate_left
    · intro w hSw; (try dsimp only at hSw); go_simp; (try with_reducible rfl)
    (try simp only [Act.put, List.setIfInBounds_toArray, List.set_cons_zero, List.set_cons_succ])
    refine wpAnyH_take (i := 14) (v := ?_) (by simp only [List.getElem?_toArray, List.getElem?_cons_succ, List.getElem?_cons_zero] <;> rfl) (by kernel_rfl) (by kernel_rfl) (by kernel_rfl) (by exact fun _ _ _ h => h) (Or.inl ⟨by rfl, ?_⟩) hHeld ?_
    rotate_left
    · intro w hSw; (try dsimp only at hSw); go_simp; (try with_reducible rfl)
    (try simp only [Act.put, List.setIfInBounds_toArray, List.set_cons_zero, List.set_cons_succ])
    refine wpAnyH_take (i := 15) (v := ?_) (by simp only [List.getElem?_toArray, List.getElem?_cons_succ, List.getElem?_cons_zero] <;> rfl) (by kernel_rfl) (by kernel_rfl) (by kernel_rfl) (by exact fun _ _ _ h => h) (Or.inl ⟨by rfl, ?_⟩) hHeld ?_
    rotate_left
    · intro w hSw; (try dsimp only at hSw); go_simp; (try with_reducible rfl)
    (try simp only [Act.put, List.setIfInBounds_toArray, List.set_cons_zero, List.set_cons_succ])
    refine wpAnyH_take (i := 16) (v := ?_) (by simp only [List.getElem?_toArray, List.getElem?_cons_succ, List.getElem?_cons_zero] <;> rfl) (by kernel_rfl) (by kernel_rfl) (by kernel_rfl) (by exact fun _ _ _ h => h) (Or.inl ⟨by rfl, ?_⟩) hHeld ?_
    rotate_left
    · intro w hSw; (try dsimp only at hSw); go_simp; (try with_reducible rfl)
    (try simp only [Act.put, List.setIfInBounds_toArray, List.set_cons_zero, List.set_cons_succ])
    refine wpAnyH_take (i := 17) (v := ?_) (by simp only [List.getElem?_toArray, List.getElem?_cons_succ, List.getElem?_cons_zero] <;> rfl) (by kernel_rfl) (by kernel_rfl) (by kernel_rfl) (by exact fun _ _ _ h => h) (Or.inl ⟨by rfl, ?_⟩) hHeld ?_
    rotate_left
    · intro w hSw; (try dsimp only at hSw); go_simp; (try with_reducible rfl)
    (try simp only [Act.put, List.setIfInBounds_toArray, List.set_cons_zero, List.set_cons_succ])
    refine wpAnyH_take (i := 18) (v := ?_) (by simp only [List.getElem?_toArray, List.getElem?_cons_succ, List.getElem?_cons_zero] <;> rfl) (by kernel_rfl) (by kernel_rfl) (by kernel_rfl) (by exact fun _ _ _ h => h) (Or.inl ⟨by rfl, ?_⟩) hHeld ?_
    rotate_left
    · intro w hSw; (try dsimp only at hSw); go_simp; (try with_reducible rfl)
    (try simp only [Act.put, List.setIfInBounds_toArray, List.set_cons_zero, List.set_cons_succ])
    refine wpAnyH_ready (rs := [19]) (by kernel_rfl) (by simp) ?_
    refine AllReadyH.cons (by simp only [List.getElem?_toArray, List.getElem?_cons_succ, List.getElem?_cons_zero] <;> rfl) (fun K hK => ?_) AllReadyH.nil
    go_simp
    refine hK.out _ _ ?_ (fun hHeld => ?_)
    · exact HS.out _ (HG2.out.2.2.alloc (Nat.le_of_lt (Nat.lt_of_succ_le (Nat.le_of_succ_le (hq2 ▸ hge)))) _).drew
    clear hK K
    (try simp only [Act.put, List.setIfInBounds_toArray, List.set_cons_zero, List.set_cons_succ])
    refine wpAnyH_ready (rs := [20]) (by kernel_rfl) (by simp) ?_
    refine AllReadyH.cons (by simp only [List.getElem?_toArray, List.getElem?_cons_succ, List.getElem?_cons_zero] <;> rfl) (fun K hK => ?_) AllReadyH.nil
    rw [if_pos (by rfl)]
    refine wp_store_head (.tmp 7) (.tmp 75) rfl q2 (headsE bs L) Hd.none (by rfl) (by first | rfl | (simp [Act.eval]; trace_state; rfl)) HA.out ?_
    refine hK.out _ _ ?_ (fun hHeld => ?_)
    · exact HS.out _ HG3.out.2.2.2
    clear hK K
    refine wpAnyH_done (by kernel_rfl) ?_ _
    go_wp2_with fail
    go_meet
    exact Lib.hid ⟨rfl, HG3.out⟩
  case rest =>
    obtain ⟨rfl, hA0, hA1, hA2, hAb⟩ := hcut.out
    have HG4 : Hid (HeadAt wc w.heap.size Hd.none ∧ HeadAt wc (w.heap.size + 1) Hd.none ∧ Below w.heap.size w wc) := Lib.hid ⟨hA0, hA1, hAb⟩
    have HH := Lib.hid hA2
    have c8 : wc.cell? ⟨q2, 8, none⟩ = some (.int .i64 (nth bs 9)) := hA2.cell 8
    have c7 := (HC.out _ hAb 7 (by omega)).1
    have c6 := (HC.out _ hAb 6 (by omega)).1
    obtain ⟨y7a, y7b⟩ := (HC.out _ hAb 7 (by omega)).2
    obtain ⟨y6a, y6b⟩ := (HC.out _ hAb 6 (by omega)).2
    have k7 : (7 : Int) < (n : Int) := by omega
    have k8 : (6 : Int) < (n : Int) := by omega
    have HPI := Lib.hid (ports_iff HHB.out)
    have HEP := Lib.hid (fun w => ePorts_any (nth bs 9) w)
    have hb7 : Hid (∀ x, nth bs 7 = x → True) := Lib.hid (fun _ _ => trivial)
    clear hcut hA0 hA1 hA2 hAb HS HA HG3 HG2 hArr hw9 hw1 hq4 hq5 hb7
    go_wp2_with fail
    refine (HEP.out _).mono ?_
    rintro e w9 ⟨rfl, rfl⟩
    clear HEP
    cases hpt : ported (nth bs 9) with
    | false =>
      have hp : portsIn bs = false := by rw [HPI.out, hpt]; rfl
      have HR6 : Hid (unread bs = 0) := Lib.hid (HR5.out.trans (if_neg (by rw [hp]; simp)))
      have HE : Hid (readHd bs = headsE bs L) := Lib.hid (by unfold readHd; rw [if_pos HR6.out]; simp [heads, headsE, heads0, hp, HLE.out])
      have HRb := Lib.hid (And.intro (HG4.out.1.stored (headsE bs L)) (below_setRow HG4.out.2.2 (Nat.le_refl _) (headsE bs L).cells.toArray))
      clear HR5 HPI HC
      go_wp2_with (first
        | refine wpList_load_head rfl (.tmp 7) rfl q2 (headsE bs L) rfl HH.out ?_
        | refine wpList_store_head rfl (.tmp 2) (.tmp 93) rfl w.heap.size (headsE bs L) Hd.none rfl rfl HG4.out.1 ?_)
      exact bodyPost_ret_by (results_head rfl _ _ rfl HRb.out.1) rfl ⟨by rw [HE.out, HR6.out]; rfl, HRb.out.2⟩
    | true =>
      by_cases b7 : nth bs 7 = 0
      case neg =>
        have b7' : (nth bs 7 != 0) = true := by simpa using b7
        have hp : portsIn bs = false := by rw [HPI.out, hpt]; simp [b7]
        have HR6 : Hid (unread bs = 0) := Lib.hid (HR5.out.trans (if_neg (by rw [hp]; simp)))
        have HE : Hid (readHd bs = headsE bs L) := Lib.hid (by unfold readHd; rw [if_pos HR6.out]; simp [heads, headsE, heads0, hp, HLE.out])
        have HRb := Lib.hid (And.intro (HG4.out.1.stored (headsE bs L)) (below_setRow HG4.out.2.2 (Nat.le_refl _) (headsE bs L).cells.toArray))
        clear HR5 HPI HC
        go_wp2_with (first
          | refine wpList_load_head rfl (.tmp 7) rfl q2 (headsE bs L) rfl HH.out ?_
          | refine wpList_store_head rfl (.tmp 2) (.tmp 93) rfl w.heap.size (headsE bs L) Hd.none rfl rfl HG4.out.1 ?_)
        exact bodyPost_ret_by (results_head rfl _ _ rfl HRb.out.1) rfl ⟨by rw [HE.out, HR6.out]; rfl, HRb.out.2⟩
      have b7' : (nth bs 7 != 0) = false := by simpa using b7
      by_cases b6 : nth bs 6 % 32 = 0
      case neg =>
        have b6' : (nth bs 6 % 32 != 0) = true := by simpa using b6
        have hp : portsIn bs = false := by rw [HPI.out, hpt]; simp [b6]
        have HR6 : Hid (unread bs = 0) := Lib.hid (HR5.out.trans (if_neg (by rw [hp]; simp)))
        have HE : Hid (readHd bs = headsE bs L) := Lib.hid (by unfold readHd; rw [if_pos HR6.out]; simp [heads, headsE, heads0, hp, HLE.out])
        have HRb := Lib.hid (And.intro (HG4.out.1.stored (headsE bs L)) (below_setRow HG4.out.2.2 (Nat.le_refl _) (headsE bs L).cells.toArray))
        clear HR5 HPI HC
        go_wp2_with (first
          | refine wpList_load_head rfl (.tmp 7) rfl q2 (headsE bs L) rfl HH.out ?_
          | refine wpList_store_head rfl (.tmp 2) (.tmp 93) rfl w.heap.size (headsE bs L) Hd.none rfl rfl HG4.out.1 ?_)
        exact bodyPost_ret_by (results_head rfl _ _ rfl HRb.out.1) rfl ⟨by rw [HE.out, HR6.out]; rfl, HRb.out.2⟩
      have b6' : (nth bs 6 % 32 != 0) = false := by simpa using b6
      have hp : portsIn bs = true := by rw [HPI.out, hpt]; simp [b7, b6]
      by_cases a7 : L < (z : Int) + 4
      · have HRR : Hid (unread bs = 8) := Lib.hid (HR5.out.trans (if_pos ⟨hp, a7⟩))
        have HE : Hid (readHd bs = Hd.none) := Lib.hid (readHd_bad (by rw [HRR.out]; decide))
        clear HC HR5 HPI hp hpt b7 b6
        have HRb := Lib.hid (And.intro (HG4.out.1.stored Hd.none) (below_setRow HG4.out.2.2 (Nat.le_refl _) Hd.none.cells.toArray))
        go_wp2_with (first
          | refine wpList_load_head rfl (.tmp 4) rfl (w.heap.size + 1) Hd.none rfl HG4.out.2.1 ?_
          | refine wpList_store_head rfl (.tmp 2) (.tmp 98) rfl w.heap.size Hd.none Hd.none rfl rfl HG4.out.1 ?_)
        exact bodyPost_ret_by (results_head rfl _ _ rfl HRb.out.1) rfl ⟨by rw [HE.out, HRR.out]; rfl, HRb.out.2⟩
      have HR6 : Hid (unread bs = 0) := Lib.hid (HR5.out.trans (if_neg (by intro h; exact a7 h.2)))
      have HE : Hid (readHd bs = { headsE bs L with sp := wordAt bs z, dp := wordAt bs (z + 2) }) := Lib.hid (by unfold readHd; rw [if_pos HR6.out]; simp [heads, headsE, heads0, hp, HLE.out, HZZ.out])
      clear HR5 HPI hp hpt b7 b6
      go_upto_region 19 with fail
      clear c8 c7 c6
      obtain ⟨e0, he0⟩ : ∃ e, nth bs z = e := ⟨_, rfl⟩
      obtain ⟨e1, he1⟩ : ∃ e, nth bs (z + 1) = e := ⟨_, rfl⟩
      obtain ⟨e2, he2⟩ : ∃ e, nth bs (z + 2) = e := ⟨_, rfl⟩
      obtain ⟨e3, he3⟩ : ∃ e, nth bs (z + 3) = e := ⟨_, rfl⟩
      obtain ⟨X, hX⟩ : ∃ X, wordAt bs z = X := ⟨_, rfl⟩
      obtain ⟨D, hD⟩ : ∃ D, wordAt bs (z + 2) = D := ⟨_, rfl⟩
      have hX' : e0 * 256 + e1 = X := by rw [← hX, ← he0, ← he1]; rfl
      have hD' : e2 * 256 + e3 = D := by rw [← hD, ← he2, ← he3]; rfl
      have hS2 : ∀ V, Below w.heap.size w V → (V.cell? ⟨b, off + z, none⟩ = some (.int .u8 e0) ∧ V.cell? ⟨b, off + (z + 1), none⟩ = some (.int .u8 e1) ∧ V.cell? ⟨b, off + (z + 2), none⟩ = some (.int .u8 e2) ∧ V.cell? ⟨b, off + (z + 3), none⟩ = some (.int .u8 e3)) := fun V hV => by
        rw [← he0, ← he1, ← he2, ← he3]
        exact ⟨(HC.out V hV z (by omega)).1, (HC.out V hV (z + 1) (by omega)).1, (HC.out V hV (z + 2) (by omega)).1, (HC.out V hV (z + 3) (by omega)).1⟩
      obtain ⟨f0a, f0b⟩ := he0 ▸ (HC.out _ HG4.out.2.2 z (by omega)).2
      obtain ⟨f1a, f1b⟩ := he1 ▸ (HC.out _ HG4.out.2.2 (z + 1) (by omega)).2
      obtain ⟨f2a, f2b⟩ := he2 ▸ (HC.out _ HG4.out.2.2 (z + 2) (by omega)).2
      obtain ⟨f3a, f3b⟩ := he3 ▸ (HC.out _ HG4.out.2.2 (z + 3) (by omega)).2
      rw [hX, hD] at HE
      have HS2 := Lib.hid hS2
      have HX := Lib.hid (And.intro hX hD)
      clear hS2 HC he0 he1 he2 he3 hX hD
      have u0 := wraps_i64 e0 (by omega) (by omega)
      have u1 := wraps_i64 e1 (by omega) (by omega)
      have u2 := wraps_i64 e2 (by omega) (by omega)
      have u3 := wraps_i64 e3 (by omega) (by omega)
      have u4 := wraps_i64 (e0 * 256) (by omega) (by omega)
      have u5 := wraps_i64 (e2 * 256) (by omega) (by omega)
      have u6 : IntKind.i64.wrap (e0 * 256 + e1) = X := by rw [hX']; exact wraps_i64 X (by omega) (by omega)
      have u7 : IntKind.i64.wrap (e2 * 256 + e3) = D := by rw [hD']; exact wraps_i64 D (by omega) (by omega)
      have v1 : IntKind.i64.wrap ((z : Int) + 1) = (z : Int) + 1 := wraps_i64 _ (by omega) (by omega)
      have v2 : IntKind.i64.wrap ((z : Int) + 2) = (z : Int) + 2 := wraps_i64 _ (by omega) (by omega)
      have v3 : IntKind.i64.wrap ((z : Int) + 3) = (z : Int) + 3 := wraps_i64 _ (by omega) (by omega)
      have p1 : (0 : Int) ≤ (z : Int) + 1 := by omega
      have t1 : ((z : Int) + 1).toNat = z + 1 := by omega
      have p2 : (0 : Int) ≤ (z : Int) + 2 := by omega
      have t2 : ((z : Int) + 2).toNat = z + 2 := by omega
      have p3 : (0 : Int) ≤ (z : Int) + 3 := by omega
      have t3 : ((z : Int) + 3).toNat = z + 3 := by omega
      have g0 : (z : Int) < (n : Int) := by omega
      have g1 : (z : Int) + 1 < (n : Int) := by omega
      have g2 : (z : Int) + 2 < (n : Int) := by omega
      have g3 : (z : Int) + 3 < (n : Int) := by omega
      clear hX' hD'
      have c9 : wc.cell? ⟨q2, 9, none⟩ = some (.int .i64 0) := HH.out.cell 9
      have c10 : wc.cell? ⟨q2, 10, none⟩ = some (.int .i64 0) := HH.out.cell 10
      have z9 := HH.out.froz 9
      have z10 := HH.out.froz 10
      have hwq : w.heap.size ≤ q2 := by omega
      refine wp_region_held_drew (S := (fun V => V.cell? ⟨b, off + z, none⟩ = some (.int .u8 e0) ∧ V.cell? ⟨b, off + (z + 1), none⟩ = some (.int .u8 e1) ∧ V.cell? ⟨b, off + (z + 2), none⟩ = some (.int .u8 e2) ∧ V.cell? ⟨b, off + (z + 3), none⟩ = some (.int .u8 e3))) (by kernel_rfl) (HS2.out _ HG4.out.2.2.drew) (fun hHeld => ?_)
      refine wpAnyH_take (i := 0) (v := ?_) (by simp only [List.getElem?_toArray, List.getElem?_cons_zero] <;> rfl) (by kernel_rfl) (by kernel_rfl) (by kernel_rfl) (by exact fun _ _ _ h => h) (Or.inl ⟨by rfl, ?_⟩) hHeld ?_
      rotate_left
      · intro w hSw; (try dsimp only at hSw); go_simp; (try with_reducible rfl)
      (try simp only [Act.put, List.setIfInBounds_toArray, List.set_cons_zero, List.set_cons_succ])
      refine wpAnyH_take (i := 1) (v := ?_) (by simp only [List.getElem?_toArray, List.getElem?_cons_succ, List.getElem?_cons_zero] <;> rfl) (by kernel_rfl) (by kernel_rfl) (by kernel_rfl) (by exact fun _ _ _ h => h) (Or.inl ⟨by rfl, ?_⟩) hHeld ?_
      rotate_left
      · intro w hSw; (try dsimp only at hSw); go_simp; (try with_reducible rfl)
      (try simp only [Act.put, List.setIfInBounds_toArray, List.set_cons_zero, List.set_cons_succ])
      refine wpAnyH_take (i := 2) (v := ?_) (by simp only [List.getElem?_toArray, List.getElem?_cons_succ, List.getElem?_cons_zero] <;> rfl) (by kernel_rfl) (by kernel_rfl) (by kernel_rfl) (by exact fun _ _ _ h => h) (Or.inl ⟨by rfl, ?_⟩) hHeld ?_
      rotate_left
      · intro w hSw; (try dsimp only at hSw); go_simp; (try with_reducible rfl)
      (try simp only [Act.put, List.setIfInBounds_toArray, List.set_cons_zero, List.set_cons_succ])
      refine wpAnyH_take (i := 3) (v := ?_) (by simp only [List.getElem?_toArray, List.getElem?_cons_succ, List.getElem?_cons_zero] <;> rfl) (by kernel_rfl) (by kernel_rfl) (by kernel_rfl) (by exact fun _ _ _ h => h) (Or.inl ⟨by rfl, ?_⟩) hHeld ?_
      rotate_left
      · intro w hSw; (try dsimp only at hSw); go_simp; (try with_reducible rfl)
      (try simp only [Act.put, List.setIfInBounds_toArray, List.set_cons_zero, List.set_cons_succ])
      refine wpAnyH_take (i := 4) (v := ?_) (by simp only [List.getElem?_toArray, List.getElem?_cons_succ, List.getElem?_cons_zero] <;> rfl) (by kernel_rfl) (by kernel_rfl) (by kernel_rfl) (by exact fun _ _ _ h => h) (Or.inl ⟨by rfl, ?_⟩) hHeld ?_
      rotate_left
      · intro w hSw; (try dsimp only at hSw); go_simp; (try with_reducible rfl)
      (try simp only [Act.put, List.setIfInBounds_toArray, List.set_cons_zero, List.set_cons_succ])
      refine wpAnyH_take (i := 5) (v := ?_) (by simp only [List.getElem?_toArray, List.getElem?_cons_succ, List.getElem?_cons_zero] <;> rfl) (by kernel_rfl) (by kernel_rfl) (by kernel_rfl) (by exact fun _ _ _ h => h) (Or.inl ⟨by rfl, ?_⟩) hHeld ?_
      rotate_left
      · intro w hSw; (try dsimp only at hSw); go_simp; (try with_reducible rfl)
      (try simp only [Act.put, List.setIfInBounds_toArray, List.set_cons_zero, List.set_cons_succ])
      refine wpAnyH_take (i := 6) (v := ?_) (by simp only [List.getElem?_toArray, List.getElem?_cons_succ, List.getElem?_cons_zero] <;> rfl) (by kernel_rfl) (by kernel_rfl) (by kernel_rfl) (by exact fun _ _ _ h => h) (Or.inl ⟨by rfl, ?_⟩) hHeld ?_
      rotate_left
      · intro w hSw; (try dsimp only at hSw); go_simp; (try with_reducible rfl)
      (try simp only [Act.put, List.setIfInBounds_toArray, List.set_cons_zero, List.set_cons_succ])
      refine wpAnyH_take (i := 7) (v := ?_) (by simp only [List.getElem?_toArray, List.getElem?_cons_succ, List.getElem?_cons_zero] <;> rfl) (by kernel_rfl) (by kernel_rfl) (by kernel_rfl) (by exact fun _ _ _ h => h) (Or.inl ⟨by rfl, ?_⟩) hHeld ?_
      rotate_left
      · intro w hSw; (try dsimp only at hSw); go_simp; (try with_reducible rfl)
      (try simp only [Act.put, List.setIfInBounds_toArray, List.set_cons_zero, List.set_cons_succ])
      refine wpAnyH_take (i := 8) (v := ?_) (by simp only [List.getElem?_toArray, List.getElem?_cons_succ, List.getElem?_cons_zero] <;> rfl) (by kernel_rfl) (by kernel_rfl) (by kernel_rfl) (by exact fun _ _ _ h => h) (Or.inl ⟨by rfl, ?_⟩) hHeld ?_
      rotate_left
      · intro w hSw; (try dsimp only at hSw); go_simp; (try with_reducible rfl)
      (try simp only [Act.put, List.setIfInBounds_toArray, List.set_cons_zero, List.set_cons_succ])
      refine wpAnyH_take (i := 9) (v := ?_) (by simp only [List.getElem?_toArray, List.getElem?_cons_succ, List.getElem?_cons_zero] <;> rfl) (by kernel_rfl) (by kernel_rfl) (by kernel_rfl) (by exact fun _ _ _ h => h) (Or.inl ⟨by rfl, ?_⟩) hHeld ?_
      rotate_left
      · intro w hSw; (try dsimp only at hSw); go_simp; (try with_reducible rfl)
      (try simp only [Act.put, List.setIfInBounds_toArray, List.set_cons_zero, List.set_cons_succ])
      refine wpAnyH_take (i := 10) (v := ?_) (by simp only [List.getElem?_toArray, List.getElem?_cons_succ, List.getElem?_cons_zero] <;> rfl) (by kernel_rfl) (by kernel_rfl) (by kernel_rfl) (by exact fun _ _ _ h => h) (Or.inl ⟨by rfl, ?_⟩) hHeld ?_
      rotate_left
      · intro w hSw; (try dsimp only at hSw); go_simp; (try with_reducible rfl)
      (try simp only [Act.put, List.setIfInBounds_toArray, List.set_cons_zero, List.set_cons_succ])
      refine wpAnyH_take (i := 11) (v := ?_) (by simp only [List.getElem?_toArray, List.getElem?_cons_succ, List.getElem?_cons_zero] <;> rfl) (by kernel_rfl) (by kernel_rfl) (by kernel_rfl) (by exact fun _ _ _ h => h) (Or.inl ⟨by rfl, ?_⟩) hHeld ?_
      rotate_left
      · intro w hSw; (try dsimp only at hSw); go_simp; (try with_reducible rfl)
      (try simp only [Act.put, List.setIfInBounds_toArray, List.set_cons_zero, List.set_cons_succ])
      refine wpAnyH_take (i := 12) (v := ?_) (by simp only [List.getElem?_toArray, List.getElem?_cons_succ, List.getElem?_cons_zero] <;> rfl) (by kernel_rfl) (by kernel_rfl) (by kernel_rfl) (by exact fun _ _ _ h => h) (Or.inl ⟨by rfl, ?_⟩) hHeld ?_
      rotate_left
      · intro w hSw; (try dsimp only at hSw); go_simp; (try with_reducible rfl)
      (try simp only [Act.put, List.setIfInBounds_toArray, List.set_cons_zero, List.set_cons_succ])
      refine wpAnyH_take (i := 13) (v := ?_) (by simp only [List.getElem?_toArray, List.getElem?_cons_succ, List.getElem?_cons_zero] <;> rfl) (by kernel_rfl) (by kernel_rfl) (by kernel_rfl) (by exact fun _ _ _ h => h) (Or.inl ⟨by rfl, ?_⟩) hHeld ?_
      rotate_left
      · intro w hSw; (try dsimp only at hSw); go_simp; (try with_reducible rfl)
      (try simp only [Act.put, List.setIfInBounds_toArray, List.set_cons_zero, List.set_cons_succ])
      refine wpAnyH_take (i := 14) (v := ?_) (by simp only [List.getElem?_toArray, List.getElem?_cons_succ, List.getElem?_cons_zero] <;> rfl) (by kernel_rfl) (by kernel_rfl) (by kernel_rfl) (by exact fun _ _ _ h => h) (Or.inl ⟨by rfl, ?_⟩) hHeld ?_
      rotate_left
      · intro w hSw; (try dsimp only at hSw); go_simp; (try with_reducible rfl)
      (try simp only [Act.put, List.setIfInBounds_toArray, List.set_cons_zero, List.set_cons_succ])
      refine wpAnyH_take (i := 15) (v := ?_) (by simp only [List.getElem?_toArray, List.getElem?_cons_succ, List.getElem?_cons_zero] <;> rfl) (by kernel_rfl) (by kernel_rfl) (by kernel_rfl) (by exact fun _ _ _ h => h) (Or.inl ⟨by rfl, ?_⟩) hHeld ?_
      rotate_left
      · intro w hSw; (try dsimp only at hSw); go_simp; (try with_reducible rfl)
      (try simp only [Act.put, List.setIfInBounds_toArray, List.set_cons_zero, List.set_cons_succ])
      refine wpAnyH_take (i := 16) (v := ?_) (by simp only [List.getElem?_toArray, List.getElem?_cons_succ, List.getElem?_cons_zero] <;> rfl) (by kernel_rfl) (by kernel_rfl) (by kernel_rfl) (by exact fun _ _ _ h => h) (Or.inl ⟨by rfl, ?_⟩) hHeld ?_
      rotate_left
      · intro w hSw; (try dsimp only at hSw); go_simp; (try with_reducible rfl)
      (try simp only [Act.put, List.setIfInBounds_toArray, List.set_cons_zero, List.set_cons_succ])
      refine wpAnyH_take (i := 17) (v := ?_) (by simp only [List.getElem?_toArray, List.getElem?_cons_succ, List.getElem?_cons_zero] <;> rfl) (by kernel_rfl) (by kernel_rfl) (by kernel_rfl) (by exact fun _ _ _ h => h) (Or.inl ⟨by rfl, ?_⟩) hHeld ?_
      rotate_left
      · intro w hSw; (try dsimp only at hSw); go_simp; (try with_reducible rfl)
      (try simp only [Act.put, List.setIfInBounds_toArray, List.set_cons_zero, List.set_cons_succ])
      refine wpAnyH_take (i := 18) (v := ?_) (by simp only [List.getElem?_toArray, List.getElem?_cons_succ, List.getElem?_cons_zero] <;> rfl) (by kernel_rfl) (by kernel_rfl) (by kernel_rfl) (by exact fun _ _ _ h => h) (Or.inl ⟨by rfl, ?_⟩) hHeld ?_
      rotate_left
      · intro w hSw; (try dsimp only at hSw); go_simp; (try with_reducible rfl)
      (try simp only [Act.put, List.setIfInBounds_toArray, List.set_cons_zero, List.set_cons_succ])
      refine wpAnyH_take (i := 19) (v := ?_) (by simp only [List.getElem?_toArray, List.getElem?_cons_succ, List.getElem?_cons_zero] <;> rfl) (by kernel_rfl) (by kernel_rfl) (by kernel_rfl) (by exact fun _ _ _ h => h) (Or.inl ⟨by rfl, ?_⟩) hHeld ?_
      rotate_left
      · intro w hSw; (try dsimp only at hSw); go_simp; (try with_reducible rfl)
      (try simp only [Act.put, List.setIfInBounds_toArray, List.set_cons_zero, List.set_cons_succ])
      refine wpAnyH_take (i := 20) (v := ?_) (by simp only [List.getElem?_toArray, List.getElem?_cons_succ, List.getElem?_cons_zero] <;> rfl) (by kernel_rfl) (by kernel_rfl) (by kernel_rfl) (by exact fun _ _ _ h => h) (Or.inl ⟨by rfl, ?_⟩) hHeld ?_
      rotate_left
      · intro w hSw; (try dsimp only at hSw); go_simp; (try with_reducible rfl)
      (try simp only [Act.put, List.setIfInBounds_toArray, List.set_cons_zero, List.set_cons_succ])
      refine wpAnyH_take (i := 21) (v := ?_) (by simp only [List.getElem?_toArray, List.getElem?_cons_succ, List.getElem?_cons_zero] <;> rfl) (by kernel_rfl) (by kernel_rfl) (by kernel_rfl) (by exact fun _ _ _ h => h) (Or.inl ⟨by rfl, ?_⟩) hHeld ?_
      rotate_left
      · intro w hSw; (try dsimp only at hSw); go_simp; (try with_reducible rfl)
      (try simp only [Act.put, List.setIfInBounds_toArray, List.set_cons_zero, List.set_cons_succ])
      refine wpAnyH_take (i := 22) (v := ?_) (by simp only [List.getElem?_toArray, List.getElem?_cons_succ, List.getElem?_cons_zero] <;> rfl) (by kernel_rfl) (by kernel_rfl) (by kernel_rfl) (by exact fun _ _ _ h => h) (Or.inl ⟨by rfl, ?_⟩) hHeld ?_
      rotate_left
      · intro w hSw; (try dsimp only at hSw); go_simp; (try with_reducible rfl)
      (try simp only [Act.put, List.setIfInBounds_toArray, List.set_cons_zero, List.set_cons_succ])
      refine wpAnyH_take (i := 23) (v := ?_) (by simp only [List.getElem?_toArray, List.getElem?_cons_succ, List.getElem?_cons_zero] <;> rfl) (by kernel_rfl) (by kernel_rfl) (by kernel_rfl) (by exact fun _ _ _ h => h) (Or.inl ⟨by rfl, ?_⟩) hHeld ?_
      rotate_left
      · intro w hSw; (try dsimp only at hSw); go_simp; (try with_reducible rfl)
      (try simp only [Act.put, List.setIfInBounds_toArray, List.set_cons_zero, List.set_cons_succ])
      refine wpAnyH_take (i := 24) (v := ?_) (by simp only [List.getElem?_toArray, List.getElem?_cons_succ, List.getElem?_cons_zero] <;> rfl) (by kernel_rfl) (by kernel_rfl) (by kernel_rfl) (by exact fun _ _ _ h => h) (Or.inl ⟨by rfl, ?_⟩) hHeld ?_
      rotate_left
      · intro w hSw; (try dsimp only at hSw); go_simp; (try with_reducible rfl)
      (try simp only [Act.put, List.setIfInBounds_toArray, List.set_cons_zero, List.set_cons_succ])
      refine wpAnyH_take (i := 25) (v := ?_) (by simp only [List.getElem?_toArray, List.getElem?_cons_succ, List.getElem?_cons_zero] <;> rfl) (by kernel_rfl) (by kernel_rfl) (by kernel_rfl) (by exact fun _ _ _ h => h) (Or.inl ⟨by rfl, ?_⟩) hHeld ?_
      rotate_left
      · intro w hSw; (try dsimp only at hSw); go_simp; (try with_reducible rfl)
      (try simp only [Act.put, List.setIfInBounds_toArray, List.set_cons_zero, List.set_cons_succ])
      refine wpAnyH_take (i := 26) (v := ?_) (by simp only [List.getElem?_toArray, List.getElem?_cons_succ, List.getElem?_cons_zero] <;> rfl) (by kernel_rfl) (by kernel_rfl) (by kernel_rfl) (by exact fun _ _ _ h => h) (Or.inl ⟨by rfl, ?_⟩) hHeld ?_
      rotate_left
      · intro w hSw; (try dsimp only at hSw); go_simp; (try with_reducible rfl)
      (try simp only [Act.put, List.setIfInBounds_toArray, List.set_cons_zero, List.set_cons_succ])
      refine wpAnyH_take (i := 27) (v := ?_) (by simp only [List.getElem?_toArray, List.getElem?_cons_succ, List.getElem?_cons_zero] <;> rfl) (by kernel_rfl) (by kernel_rfl) (by kernel_rfl) (by exact fun _ _ _ h => h) (Or.inl ⟨by rfl, ?_⟩) hHeld ?_
      rotate_left
      · intro w hSw; (try dsimp only at hSw); go_simp; (try with_reducible rfl)
      (try simp only [Act.put, List.setIfInBounds_toArray, List.set_cons_zero, List.set_cons_succ])
      refine wpAnyH_ready (rs := [28]) (by kernel_rfl) (by simp) ?_
      refine AllReadyH.cons (by simp only [List.getElem?_toArray, List.getElem?_cons_succ, List.getElem?_cons_zero] <;> rfl) (fun K hK => ?_) AllReadyH.nil
      go_simp
      refine hK.out _ _ ?_ (fun hHeld => ?_)
      · exact HS2.out _ (HG4.out.2.2.setCell (p := ⟨q2, 9, none⟩) hwq _).drew
      clear hK K
      (try simp only [Act.put, List.setIfInBounds_toArray, List.set_cons_zero, List.set_cons_succ])
      refine wpAnyH_take (i := 29) (v := ?_) (by simp only [List.getElem?_toArray, List.getElem?_cons_succ, List.getElem?_cons_zero] <;> rfl) (by kernel_rfl) (by kernel_rfl) (by kernel_rfl) (by exact fun _ _ _ h => h) (Or.inl ⟨by rfl, ?_⟩) hHeld ?_
      rotate_left
      · intro w hSw; (try dsimp only at hSw); go_simp; (try with_reducible rfl)
      (try simp only [Act.put, List.setIfInBounds_toArray, List.set_cons_zero, List.set_cons_succ])
      refine wpAnyH_ready (rs := [30]) (by kernel_rfl) (by simp) ?_
      refine AllReadyH.cons (by simp only [List.getElem?_toArray, List.getElem?_cons_succ, List.getElem?_cons_zero] <;> rfl) (fun K hK => ?_) AllReadyH.nil
      go_simp
      refine hK.out _ _ ?_ (fun hHeld => ?_)
      · exact HS2.out _ ((HG4.out.2.2.setCell (p := ⟨q2, 9, none⟩) hwq _).setCell (p := ⟨q2, 10, none⟩) hwq _).drew
      clear hK K
      (try simp only [Act.put, List.setIfInBounds_toArray, List.set_cons_zero, List.set_cons_succ])
      refine wpAnyH_done (by kernel_rfl) ?_ _
      have HF := Lib.hid ((HH.out.sp X).dp D)
      have HO := Lib.hid ((HG4.out.1.other ⟨q2, 9, none⟩ (.int .i64 X) (by simp only; omega)).other ⟨q2, 10, none⟩ (.int .i64 D) (by simp only; omega))
      have hbb := (HG4.out.2.2.setCell (p := ⟨q2, 9, none⟩) hwq (.int .i64 X)).setCell (p := ⟨q2, 10, none⟩) hwq (.int .i64 D)
      obtain ⟨W5, hW5⟩ : ∃ W5, W5 = ((wc.setCell ⟨q2, 9, none⟩ (.int .i64 X)).setCell ⟨q2, 10, none⟩ (.int .i64 D)).drew := ⟨_, rfl⟩
      rw [← hW5]
      have HF5 : Hid (HeadAt W5 q2 { headsE bs L with sp := X, dp := D } ∧ HeadAt W5 w.heap.size Hd.none ∧ Below w.heap.size w W5) := Lib.hid (by rw [hW5]; exact ⟨HF.out, HO.out, hbb.drew⟩)
      have HRb := Lib.hid (And.intro (HF5.out.2.1.stored { headsE bs L with sp := X, dp := D }) (below_setRow HF5.out.2.2 (Nat.le_refl _) { headsE bs L with sp := X, dp := D }.cells.toArray))
      clear hW5 HF HO hbb HH HG4 HS2 c9 c10 z9 z10 hHeld
      go_wp2_with (first
        | refine wpList_load_head rfl (.tmp 7) rfl q2 { headsE bs L with sp := X, dp := D } rfl HF5.out.1 ?_
        | refine wpList_store_head rfl (.tmp 2) (.tmp 128) rfl w.heap.size { headsE bs L with sp := X, dp := D } Hd.none rfl rfl HF5.out.2.1 ?_)
      exact bodyPost_ret_by (results_head rfl _ _ rfl HRb.out.1) rfl ⟨by rw [HE.out, HR6.out]; rfl, HRb.out.2⟩
end Go.Proofs.Ytmigfemkbdehbaa
