/- The reference's division of digits: the walk up to its great loop. -/
import Derived.Test.YtfopcipapphogaaParts0
import Derived.Deep.DeepCutAuto
import Derived.Deep.LoopGhost
import Derived.Deep.CutBlock
import Derived.Deep.QuietTactic
import Derived.BigQuiet
namespace Go.Proofs.Ytfopcipapphogaa
open Go.RowKit

theorem shl_small (A : Option Addr) (n c N : Nat) (f : Nat → Nat) (w : World) (hd : Dig w A n f) (hs : Small n f) (hn : n ≤ 100000) (hN : N ≤ 31) :
    Calls Try.prog 80 #[.slice A n c, .int .i64 N] w (NewRow w (n + 1) (val n f * 2 ^ N)) := by
  have h := shl_any A n c N 0 N f w hd hs hn (by omega) (by omega) (by decide)
  simpa using h

set_option maxRecDepth 1000000 in
set_option maxHeartbeats 8000000 in
theorem parts_big (A A' : Option Addr) (nx n c c' : Nat) (f f' : Nat → Nat) (w : World) (hd : Dig w A nx f) (hd' : Dig w A' n f') (hs : Small nx f) (hs' : Small n f') (hnx : nx ≤ 100000) (hn : 2 ≤ n) (hle : n ≤ nx) (ht : f' (n - 1) ≠ 0) :
    Calls Try.prog 85 #[.slice A nx c, .slice A' n c'] w (PartsRow w (nx + 1) n (val nx f / val n f') (val nx f % val n f')) := by
  obtain ⟨b', rfl⟩ := hd'.addr (by omega)
  obtain ⟨m, rfl⟩ : ∃ m, n = m + 2 := ⟨n - 2, by omega⟩
  have ht1 : f' (m + 1) ≠ 0 := by simpa using ht
  have hty := (hd'.cell (j := m + 1) (by omega)).1
  have hts := hs' (m + 1) (by omega)
  clear ht
  have hn2 : m + 2 ≤ 100000 := by omega
  have hmk := run_make_row' (P := Try.prog) 30 81 (.int .u32 0) 4 Try.underlying30 (by kernel_rfl) rfl .i64 .i64 (nx + 1) (by omega) (by omega)
  have ec : ((nx + 1 : Nat) : Int) = (nx : Int) + 1 := by omega
  rw [ec] at hmk
  clear ec
  have hb1 : ((m : Int) + 2 == 1) = false := by simp; omega
  go_enter Try.func85, Try.ntmps85
  go_wp2_with fail
  go_loop [9] (fun i => ∃ k : Nat, i = .int .i64 k ∧ k ≤ 31 ∧ f' (m + 1) * 2 ^ k < 4294967296) (fun i => 32 - (intOf i).toNat)
  case atStart => exact ⟨0, rfl, by decide, by simpa using hts⟩
  case round =>
    obtain ⟨k, rfl, hk, hlt⟩ := hrel
    have hm1 : (((m + 1 : Nat) : Int)) = (m : Int) + 1 := by omega
    have ew : IntKind.u32.wrap ((f' (m + 1) : Int) * 2 ^ k) = ((f' (m + 1) * 2 ^ k : Nat) : Int) := by
      rw [show (f' (m + 1) : Int) * 2 ^ k = ((f' (m + 1) * 2 ^ k : Nat) : Int) by push_cast; rfl, IntKind.wrap_u32]
      omega
    obtain ⟨T, hT⟩ : ∃ T, f' (m + 1) * 2 ^ k = T := ⟨_, rfl⟩
    rw [hT] at ew hlt
    have HT := Lib.hid hT
    clear hT
    by_cases hsm : T < 2147483648
    · have et : (((T : Nat) : Int) / 2147483648 == 0) = true := by rw [beq_iff_eq]; omega
      have hk31 : k < 31 := by
        rcases Nat.lt_or_ge k 31 with h | h
        · exact h
        · have h31 : k = 31 := by omega
          have h5 := HT.out
          rw [h31] at h5
          have : 1 * 2 ^ 31 ≤ f' (m + 1) * 2 ^ 31 := Nat.mul_le_mul_right _ (by omega)
          omega
      go_wp2_with fail
      go_round
      case rel =>
        refine ⟨k + 1, by go_num, by omega, ?_⟩
        rw [Nat.pow_succ, ← Nat.mul_assoc, HT.out]
        omega
      case measure => simp [intOf]; omega
    · have et : (((T : Nat) : Int) / 2147483648 == 0) = false := by rw [beq_eq_false_iff_ne]; omega
      go_wp2_with fail
      refine wp_region_held_drew (S := (fun _ => True)) (by kernel_rfl) trivial (fun hHeld => ?_)
      refine wpAnyH_take (i := 0) (v := ?_) (by simp only [List.getElem?_toArray, List.getElem?_cons_zero] <;> rfl) (by kernel_rfl) (by kernel_rfl) (by kernel_rfl) (by exact fun _ _ _ h => h) (Or.inl ⟨by rfl, ?_⟩) hHeld ?_
      rotate_left
      · intro w hSw; (try dsimp only at hSw); go_simp; (try with_reducible rfl)
      (try simp only [Act.put, List.setIfInBounds_toArray, List.set_cons_zero, List.set_cons_succ])
      refine wpAnyH_take (i := 1) (v := ?_) (by simp only [List.getElem?_toArray, List.getElem?_cons_succ, List.getElem?_cons_zero] <;> rfl) (by kernel_rfl) (by kernel_rfl) (by kernel_rfl) (by exact fun _ _ _ h => h) (Or.inl ⟨by rfl, ?_⟩) hHeld ?_
      rotate_left
      · intro w hSw; (try dsimp only at hSw); go_simp; (try with_reducible rfl)
      (try simp only [Act.put, List.setIfInBounds_toArray, List.set_cons_zero, List.set_cons_succ])
      refine wpAnyH_take (i := 3) (v := ?_) (by simp only [List.getElem?_toArray, List.getElem?_cons_succ, List.getElem?_cons_zero] <;> rfl) (by kernel_rfl) (by kernel_rfl) (by kernel_rfl) (by exact fun _ _ _ h => h) (Or.inl ⟨by rfl, ?_⟩) hHeld ?_
      rotate_left
      · intro w hSw; (try dsimp only at hSw); go_simp; (try with_reducible rfl)
      (try simp only [Act.put, List.setIfInBounds_toArray, List.set_cons_zero, List.set_cons_succ])
      refine wpAnyH_take (i := 5) (v := ?_) (by simp only [List.getElem?_toArray, List.getElem?_cons_succ, List.getElem?_cons_zero] <;> rfl) (by kernel_rfl) (by kernel_rfl) (by kernel_rfl) (by exact fun _ _ _ h => h) (Or.inl ⟨by rfl, ?_⟩) hHeld ?_
      rotate_left
      · intro w hSw; (try dsimp only at hSw); go_simp; (try with_reducible rfl)
      (try simp only [Act.put, List.setIfInBounds_toArray, List.set_cons_zero, List.set_cons_succ])
      refine wpAnyH_take (i := 6) (v := ?_) (by simp only [List.getElem?_toArray, List.getElem?_cons_succ, List.getElem?_cons_zero] <;> rfl) (by kernel_rfl) (by kernel_rfl) (by kernel_rfl) (by exact fun _ _ _ h => h) (Or.inl ⟨by rfl, ?_⟩) hHeld ?_
      rotate_left
      · intro w hSw; (try dsimp only at hSw); go_simp; (try with_reducible rfl)
      (try simp only [Act.put, List.setIfInBounds_toArray, List.set_cons_zero, List.set_cons_succ])
      have hdw : Dig w.drew (some ⟨b', 0, none⟩) (m + 2) f' := hd'
      refine wpAnyH_ready (rs := [2]) (by kernel_rfl) (by simp) ?_
      refine AllReadyH.cons (by simp only [List.getElem?_toArray, List.getElem?_cons_succ, List.getElem?_cons_zero] <;> rfl) (fun K hK => ?_) AllReadyH.nil
      go_simp
      (with_reducible refine (shl_small (some ⟨b', 0, none⟩) (m + 2) c' k f' w.drew hdw hs' hn2 hk).mono ?_)
      rintro e w1 ⟨bv, mv, vf, rfl, p1, p2, p3, p4, p5, p6, p7⟩
      go_wp2_with fail
      refine hK.out _ _ trivial (fun hHeld => ?_)
      clear hK K
      (try simp only [Act.put, List.setIfInBounds_toArray, List.set_cons_zero, List.set_cons_succ])
      refine wpAnyH_take (i := 4) (v := ?_) (by simp only [List.getElem?_toArray, List.getElem?_cons_succ, List.getElem?_cons_zero] <;> rfl) (by kernel_rfl) (by kernel_rfl) (by kernel_rfl) (by exact fun _ _ _ h => h) (Or.inl ⟨by rfl, ?_⟩) hHeld ?_
      rotate_left
      · intro w hSw; (try dsimp only at hSw); go_simp; rw [if_pos ⟨by omega, by omega⟩, show ((m : Int) + 2).toNat = m + 2 from by omega]; (try with_reducible rfl)
      (try simp only [Act.put, List.setIfInBounds_toArray, List.set_cons_zero, List.set_cons_succ])
      have hdx : Dig w1 A nx f := (show Dig w.drew A nx f from hd).below p7
      refine wpAnyH_ready (rs := [7]) (by kernel_rfl) (by simp) ?_
      refine AllReadyH.cons (by simp only [List.getElem?_toArray, List.getElem?_cons_succ, List.getElem?_cons_zero] <;> rfl) (fun K hK => ?_) AllReadyH.nil
      go_simp
      (with_reducible refine (shl_small A nx c k f w1 hdx hs hnx hk).mono ?_)
      rintro e w2 ⟨bu, mu, uf, rfl, q1, q2, q3, q4, q5, q6, q7⟩
      go_wp2_with fail
      refine hK.out _ _ trivial (fun hHeld => ?_)
      clear hK K
      (try simp only [Act.put, List.setIfInBounds_toArray, List.set_cons_zero, List.set_cons_succ])
      refine wpAnyH_take (i := 8) (v := ?_) (by simp only [List.getElem?_toArray, List.getElem?_cons_succ, List.getElem?_cons_zero] <;> rfl) (by kernel_rfl) (by kernel_rfl) (by kernel_rfl) (by exact fun _ _ _ h => h) (Or.inl ⟨by rfl, ?_⟩) hHeld ?_
      rotate_left
      · intro w hSw; (try dsimp only at hSw); go_simp; (try with_reducible rfl)
      (try simp only [Act.put, List.setIfInBounds_toArray, List.set_cons_zero, List.set_cons_succ])
      refine wpAnyH_take (i := 9) (v := ?_) (by simp only [List.getElem?_toArray, List.getElem?_cons_succ, List.getElem?_cons_zero] <;> rfl) (by kernel_rfl) (by kernel_rfl) (by kernel_rfl) (by exact fun _ _ _ h => h) (Or.inl ⟨by rfl, ?_⟩) hHeld ?_
      rotate_left
      · intro w hSw; (try dsimp only at hSw); go_simp; (try with_reducible rfl)
      (try simp only [Act.put, List.setIfInBounds_toArray, List.set_cons_zero, List.set_cons_succ])
      refine wpAnyH_done (by kernel_rfl) ?_ _
      go_wp2_with fail
      have hsv : Small (m + 3) vf := p5
      obtain ⟨hvv, h11⟩ := top_of hs' p5 hk (by rw [HT.out]; exact hlt) (by rw [HT.out]; omega) p6
      have g1 : w.heap.size ≤ w1.heap.size := p7.size
      have g2 : w1.heap.size ≤ w2.heap.size := q7.size
      have hbv : w.heap.size ≤ bv := p3
      have hbu : w.heap.size ≤ bu := Nat.le_trans g1 q3
      have hbo : w.heap.size ≤ w2.heap.size := Nat.le_trans g1 g2
      have l1 := p4.lt
      have l2 := q4.lt
      have n1 : ¬ bv = bu := by omega
      have n2 : ¬ bv = w2.heap.size := by omega
      have n3 : ¬ bu = w2.heap.size := by omega
      have hI0 : PInv w (w2.alloc (.cells (madeCells #[.int .u32 0] (nx + 1)) 81)) bu bv w2.heap.size mu mv (nx + 1) (m + 2) (val nx f * 2 ^ k) (val (m + 2) vf) vf uf (fun _ => 0) (nx - m - 1) :=
        ⟨(p4.of_block (q7.block bv l1)).of_block (Below.heap_alloc w2 _ bv (Nat.lt_of_lt_of_le l1 g2)), q4.of_block (Below.heap_alloc w2 _ bu l2), World.rowIs_made w2 _ _ _, q5, fun _ _ => by decide, kinv_start hle hs q5 hk q6 h11,
          ((show Below w.heap.size w w1 from ⟨p7.os, p7.tape, p7.output, p7.size, p7.block⟩).trans (q7.mono g1)).alloc hbo _⟩
      have HV := Lib.hid hvv
      clear hvv g1 g2 l1 l2
      clear p3 p4 p5 p6 p7 q3 q4 q5 q6 q7 hHeld hdx hdw hd hd' hty ew et hb1 hmk
      generalize w2.heap.size = bo at *
      go_loopg [14] (nx - m - 1) (fun g s14 wr => ∃ (kk : Nat) (U O : Nat → Nat), kk = g ∧ kk + (m + 2) ≤ nx + 1 ∧ s14 = .int .i64 ((kk : Int) - 1) ∧ PInv w wr bu bv bo mu mv (nx + 1) (m + 2) (val nx f * 2 ^ k) (val (m + 2) vf) vf U O kk)
      case atStart => exact ⟨nx - m - 1, uf, fun _ => 0, rfl, by omega, by congr 1; omega, hI0⟩
      case round =>
        clear hI0
        obtain ⟨kk, U, O, rfl, hkk, rfl, hI⟩ := hrel
        rcases Nat.eq_zero_or_pos kk with h0 | h0
        · subst h0
          have HI := Lib.hid hI
          clear hI
          go_wp2_with fail
          have hdu : Dig wr (some ⟨bu, 0, none⟩) (m + 2) U := NewRow.dig HI.out.ru (by omega)
          (with_reducible refine (shr_any bu (m + 2) mu k 0 k U wr hdu (HI.out.su.le (by omega)) hn2 (by omega) (by omega) (by omega) (by omega)).mono ?_)
          rintro e w3 ⟨br, mr, R, rfl, r1, r2, r3, r4, r5, r6, r7⟩
          go_wp2_with fail
          obtain ⟨f1, f2⟩ := kinv_end HI.out.ki rfl HV.out
          have lo := HI.out.ro.lt
          exact bodyPost_ret (v := .tuple #[.slice (some ⟨bo, 0, none⟩) (nx + 1) (nx + 1), .slice (some ⟨br, 0, none⟩) (m + 2) mr]) (by simp [results, Try.results85, go_sem]) rfl ⟨bo, nx + 1, br, mr, O, R, rfl, Nat.le_refl _, by omega, r1, r2, hbo, Nat.le_trans HI.out.below.size r3, HI.out.ro.of_block (r7.block bo lo), r4, HI.out.so, r5, f1, r6.trans f2, HI.out.below.trans (r7.mono HI.out.below.size)⟩
        · obtain ⟨j, rfl⟩ : ∃ j, kk = j + 1 := ⟨kk - 1, by omega⟩
          rw [show ((j + 1 : Nat) : Int) - 1 = (j : Int) by omega]
          have c0 := (hI.ru.cell (i := j + (m + 2)) (by omega))
          have c1 := (hI.ru.cell (i := j + (m + 1)) (by omega))
          have c2 := (hI.ru.cell (i := j + m) (by omega))
          have v1 := (hI.rv.cell (i := m + 1) (by omega))
          have v2 := (hI.rv.cell (i := m) (by omega))
          have s0 := hI.su (j + (m + 2)) (by omega)
          have s1 := hI.su (j + (m + 1)) (by omega)
          have s2 := hI.su (j + m) (by omega)
          have t1 := hsv (m + 1) (by omega)
          have t2 := hsv m (by omega)
          have HI := Lib.hid hI
          clear hI
          have hGI := gin_of h11 hsv HI.out.su (by omega) HI.out.ki.rest
          have h11' := h11
          generalize hU0 : U (j + (m + 2)) = d0 at c0 s0 hGI
          generalize hU1 : U (j + (m + 1)) = d1 at c1 s1 hGI
          generalize hU2 : U (j + m) = d2 at c2 s2 hGI
          generalize hV1 : vf (m + 1) = y1 at v1 t1 h11' hGI
          generalize hV2 : vf m = y2 at v2 t2 hGI
          have HU := Lib.hid (And.intro hU0 (And.intro hU1 (And.intro hU2 (And.intro hV1 hV2))))
          clear hU0 hU1 hU2 hV1 hV2
          have w0 : IntKind.u64.wrap (d0 : Int) = d0 := by rw [IntKind.wrap_u64]; omega
          have w1 : IntKind.u64.wrap (d1 : Int) = d1 := by rw [IntKind.wrap_u64]; omega
          have w2' : IntKind.u64.wrap (d2 : Int) = d2 := by rw [IntKind.wrap_u64]; omega
          have w3 : IntKind.u64.wrap (y1 : Int) = y1 := by rw [IntKind.wrap_u64]; omega
          have w4 : IntKind.u64.wrap (y2 : Int) = y2 := by rw [IntKind.wrap_u64]; omega
          have w5 : IntKind.u64.wrap ((d0 : Int) * 4294967296) = (d0 : Int) * 4294967296 := by rw [IntKind.wrap_u64]; omega
          obtain ⟨T, hT⟩ : ∃ T, T = d0 * 4294967296 + d1 := ⟨_, rfl⟩
          have w6 : bits .or .u64 ((d0 : Int) * 4294967296) (d1 : Int) = (T : Int) := by
            rw [hT]; exact or_hi s0 s1
          have hTb : T < 18446744073709551616 := by omega
          rw [← hT] at hGI
          have HT2 := Lib.hid hT
          clear hT
          have z1 : ((y1 : Int) == 0) = false := by rw [beq_eq_false_iff_ne]; omega
          go_wp2_with fail
          have b0 : (j : Int) + ((m : Int) + 2) < (nx : Int) + 1 := by omega
          have b1 : (j : Int) + ((m : Int) + 2) - 1 < (nx : Int) + 1 := by omega
          have b2 : (j : Int) + ((m : Int) + 2) - 2 < (nx : Int) + 1 := by omega
          go_quiet (fail)
          go_wp2_with fail
          go_quiet (fail)
          have e1 : IntKind.u64.wrap ((T : Int) / (y1 : Int)) = ((T / y1 : Nat) : Int) := div_wrap hTb
          have e2 : (T : Int) % (y1 : Int) = ((T % y1 : Nat) : Int) := by push_cast; rfl
          go_upto_block 6 with fail
          go_cut [16, 17] (fun s16 _ wx => ∃ Q : Nat, s16 = .int .u64 Q ∧ GDone T d2 y1 y2 Q ∧ PInv w wx bu bv bo mu mv (nx + 1) (m + 2) (val nx f * 2 ^ k) (val (m + 2) vf) vf U O (j + 1))
          case first =>
            go_wp2_with fail
            go_loopg [16, 17] (T / y1) (fun g s16 s17 wx => ∃ Q R : Nat, Q = g ∧ s16 = .int .u64 Q ∧ s17 = .int .u64 R ∧ GInv T d2 y1 y2 Q R ∧ PInv w wx bu bv bo mu mv (nx + 1) (m + 2) (val nx f * 2 ^ k) (val (m + 2) vf) vf U O (j + 1))
            case atStart => exact ⟨T / y1, T % y1, rfl, by rw [e1], by rw [e2], ginv_start hGI, HI.out.drewN _ |>.drewN _⟩
            case round =>
              clear c0 c1 c2 v1 v2
              obtain ⟨Q, R, rfl, rfl, rfl, hGv, hJ⟩ := hrel
              have hQ1 := hGv.q1
              have hR1 := hGv.r1
              have c2 := (hJ.ru.cell (i := j + m) (by omega))
              have v1 := (hJ.rv.cell (i := m + 1) (by omega))
              have v2 := (hJ.rv.cell (i := m) (by omega))
              rw [HU.out.2.2.1] at c2
              rw [HU.out.2.2.2.1] at v1
              rw [HU.out.2.2.2.2] at v2
              have c3 : wr.cell? ⟨bu, j + (m + 2) - 2, none⟩ = some (.int .u32 d2) := by rw [show j + (m + 2) - 2 = j + m by omega]; exact c2
              have HJ := Lib.hid (And.intro hJ hGv)
              clear hJ hGv
              have x1 : IntKind.u64.wrap ((R : Int) * 4294967296) = (R : Int) * 4294967296 := by rw [IntKind.wrap_u64]; omega
              have x2 : bits .or .u64 ((R : Int) * 4294967296) (d2 : Int) = ((R * 4294967296 + d2 : Nat) : Int) := or_hi hR1 s2
              have x3 : IntKind.u64.wrap ((R : Int) + (y1 : Int)) = ((R + y1 : Nat) : Int) := by rw [IntKind.wrap_u64]; omega
              have y5 : (((R + y1 : Nat) : Int) / 4294967296 != 0) = decide (4294967296 ≤ R + y1) := top_bit _
              by_cases hq : 4294967296 ≤ Q
              · have g1 : ((Q : Int) / 4294967296 != 0) = true := by rw [bne_iff_ne]; omega
                have x4 : IntKind.u64.wrap ((Q : Int) - 1) = ((Q - 1 : Nat) : Int) := by rw [IntKind.wrap_u64]; omega
                by_cases hb : 4294967296 ≤ R + y1
                · have g3 : decide (4294967296 ≤ R + y1) = true := decide_eq_true hb
                  go_wp2_with fail
                  go_quiet (fail)
                  go_wp2_with fail
                  go_meet
                  exact ⟨Q - 1, by first | rfl | rw [x4], gdone_break hGI HJ.out.2 (.inl hq) hb, HJ.out.1.drewN _⟩
                · have g3 : decide (4294967296 ≤ R + y1) = false := decide_eq_false hb
                  go_wp2_with fail
                  go_quiet (fail)
                  go_wp2_with fail
                  go_roundg (Q - 1)
                  case measure => omega
                  case rel => exact ⟨Q - 1, R + y1, rfl, rfl, rfl, ginv_next HJ.out.2 (.inl hq) (by omega), HJ.out.1.drewN _⟩
              · have g1 : ((Q : Int) / 4294967296 != 0) = false := by rw [bne_eq_false_iff_eq]; omega
                have x5 : IntKind.u64.wrap ((Q : Int) * (y2 : Int)) = ((Q * y2 : Nat) : Int) := mul_wrap (by omega) t2
                by_cases hc : R * 4294967296 + d2 < Q * y2
                · have g2 : decide (((R * 4294967296 + d2 : Nat) : Int) < ((Q * y2 : Nat) : Int)) = true := decide_eq_true (by omega)
                  have hQ0 := ginv_pos (.inr hc)
                  have x4 : IntKind.u64.wrap ((Q : Int) - 1) = ((Q - 1 : Nat) : Int) := by rw [IntKind.wrap_u64]; omega
                  by_cases hb : 4294967296 ≤ R + y1
                  · have g3 : decide (4294967296 ≤ R + y1) = true := decide_eq_true hb
                    go_wp2_with fail
                    go_quiet (fail)
                    go_wp2_with fail
                    go_meet
                    exact ⟨Q - 1, by first | rfl | rw [x4], gdone_break hGI HJ.out.2 (.inr hc) hb, HJ.out.1.drewN _⟩
                  · have g3 : decide (4294967296 ≤ R + y1) = false := decide_eq_false hb
                    go_wp2_with fail
                    go_quiet (fail)
                    go_wp2_with fail
                    go_roundg (Q - 1)
                    case measure => omega
                    case rel => exact ⟨Q - 1, R + y1, rfl, rfl, rfl, ginv_next HJ.out.2 (.inr hc) (by omega), HJ.out.1.drewN _⟩
                · have g2 : decide (((R * 4294967296 + d2 : Nat) : Int) < ((Q * y2 : Nat) : Int)) = false := decide_eq_false (by omega)
                  go_wp2_with fail
                  go_quiet (fail)
                  go_wp2_with fail
                  go_meet
                  exact ⟨Q, rfl, gdone_exit HJ.out.2 (by omega) (by omega), HJ.out.1.drewN _⟩
          case rest =>
            obtain ⟨Q, rfl, hGd, hIc⟩ := hcut
            have hQ := hGd.q1
            have hN : val (m + 3) (from_ j U) < Q * val (m + 2) vf + val (m + 2) vf ∧ Q * val (m + 2) vf < val (m + 3) (from_ j U) + val (m + 2) vf := by
              refine near_of h11 hsv hIc.su (by omega) hIc.ki.rest ?_
              rw [HU.out.1, HU.out.2.1, HU.out.2.2.1, HU.out.2.2.2.1, HU.out.2.2.2.2, ← HT2.out]
              exact hGd
            have HN := Lib.hid hN
            clear hN
            have HIc := Lib.hid (And.intro hIc hGd)
            clear hIc hGd c0 c1 c2 v1 v2 HI hGI
            go_wp2_with fail
            go_loopg [18, 19, 174] (m + 2) (fun g s18 s19 si wx => ∃ (i c5 b5 : Nat) (U' : Nat → Nat), si = .int .i64 i ∧ i ≤ m + 2 ∧ m + 2 - i = g ∧ s18 = .int .u64 c5 ∧ s19 = .int .u64 b5 ∧ MS w wx bu bv bo mu mv (nx + 1) vf O U U' j Q i c5 b5)
            case atStart => exact ⟨0, 0, 0, U, rfl, Nat.zero_le _, rfl, rfl, rfl, HIc.out.1.ms j Q⟩
            case round =>
              obtain ⟨i, c5, b5, U', rfl, hi, rfl, rfl, rfl, hM⟩ := hrel
              have hc5 := hM.c1
              have hb5 := hM.b1
              by_cases hin : i < m + 2
              · have v5 := hM.mem.rv.cell (i := i) (by omega)
                have u5 := hM.mem.ru.cell (i := j + i) (by omega)
                have z5 := hM.mem.ru.frozen (j + i)
                have tv := hsv i (by omega)
                have tu := hM.mem.su (j + i) (by omega)
                have HM := Lib.hid hM
                clear hM
                obtain ⟨a5, ha5⟩ : ∃ a, vf i = a := ⟨_, rfl⟩
                obtain ⟨d5, hd5⟩ : ∃ d, U' (j + i) = d := ⟨_, rfl⟩
                rw [ha5] at v5 tv
                rw [hd5] at u5 tu
                have HA := Lib.hid (And.intro ha5 hd5)
                clear ha5 hd5
                obtain ⟨m1, m2, m3⟩ := mul_digit hQ tv hc5
                have k0 : IntKind.u64.wrap ((Q : Int) * (a5 : Int)) = (Q : Int) * (a5 : Int) := by
                  rw [IntKind.wrap_u64, show (Q : Int) * (a5 : Int) = ((Q * a5 : Nat) : Int) by push_cast; rfl]
                  omega
                obtain ⟨t5, ht5⟩ : ∃ t, c5 + Q * a5 = t := ⟨_, rfl⟩
                rw [ht5] at m1 m3
                have k1 : IntKind.u64.wrap ((c5 : Int) + (Q : Int) * (a5 : Int)) = (t5 : Int) := by
                  rw [IntKind.wrap_u64, show (Q : Int) * (a5 : Int) = ((Q * a5 : Nat) : Int) by push_cast; rfl]
                  omega
                obtain ⟨l5, e5, hl5, hl5', he5, k2, k4⟩ : ∃ l e : Nat, l < 4294967296 ∧ t5 = l + e * 4294967296 ∧ e < 4294967296 ∧ IntKind.u32.wrap (t5 : Int) = (l : Int) ∧ (t5 : Int) / 4294967296 = (e : Int) :=
                  ⟨t5 % 4294967296, t5 / 4294967296, by omega, by omega, m3, by rw [IntKind.wrap_u32]; omega, by omega⟩
                have k3 : IntKind.u64.wrap (l5 : Int) = (l5 : Int) := by rw [IntKind.wrap_u64]; omega
                obtain ⟨w5, w6, D5, b6, k5, k6, k7, k8, hD5, hb6, hs5⟩ := sub_digit tu hl5 hb5
                have k9 : IntKind.u64.wrap (d5 : Int) = (d5 : Int) := by rw [IntKind.wrap_u64]; omega
                have HK := Lib.hid (And.intro ht5 (And.intro hl5' hs5))
                clear ht5 hl5' hs5 m2
                have b5' : (j : Int) + (i : Int) < (nx : Int) + 1 := by omega
                go_wp2_with fail
                go_roundg (m + 2 - (i + 1))
                case measure => omega
                case rel => exact ⟨i + 1, e5, b6, _, by go_num, by omega, rfl, rfl, rfl, HM.out.put n1 n3 hbu rfl hD5 he5 hb6 (by rw [HA.out.1, HK.out.1]; exact HK.out.2.1) (by rw [HA.out.2]; exact HK.out.2.2)⟩
              · obtain rfl : i = m + 2 := by omega
                have u5 := hM.mem.ru.cell (i := j + (m + 2)) (by omega)
                have z5 := hM.mem.ru.frozen (j + (m + 2))
                have co := hM.mem.ro.cell (i := j) (by omega)
                have zo := hM.mem.ro.frozen j
                have n3' : ¬ bo = bu := fun e => n3 e.symm
                have hu0 := hM.mem.hi (j + (m + 2)) (Nat.le_refl _)
                rw [hu0, HU.out.1] at u5
                clear hu0
                have HM := Lib.hid hM
                clear hM
                obtain ⟨w7, w8, D7, b7, k5, k6, k7, k8, hD7, hb7, hs7⟩ := sub_digit s0 hc5 hb5
                rw [← HU.out.1] at hs7
                have HK := Lib.hid hs7
                clear hs7
                have q32 : IntKind.u32.wrap (Q : Int) = (Q : Int) := by rw [IntKind.wrap_u32]; omega
                rcases Nat.eq_zero_or_pos b7 with h7 | h7
                · subst h7
                  go_wp2_with fail
                  go_roundg j
                  case measure => omega
                  case rel =>
                    have hE := HM.out.pos (hsv.le (by omega)) HK.out HN.out.1
                    have hsame : val (m + 2) (from_ j (fun t => if t = j + (m + 2) then D7 else U' t)) = val (m + 2) (from_ j U') := val_from_same
                    exact ⟨j, _, _, rfl, by omega, rfl, HIc.out.1.next (by omega) (HM.out.mem.put D7 rfl hD7 n1 n3 hbu) Q rfl hQ n2 n3 hbo (by rw [hsame]; exact hE.1) (by rw [hsame]; exact hE.2)⟩
                · obtain rfl : b7 = 1 := by omega
                  have hQ0 : 1 ≤ Q := HM.out.q_pos (by omega) hD7 HK.out
                  have xq : IntKind.u64.wrap ((Q : Int) - 1) = ((Q - 1 : Nat) : Int) := by rw [IntKind.wrap_u64]; omega
                  obtain ⟨Q', hQ'⟩ : ∃ q, Q - 1 = q := ⟨_, rfl⟩
                  rw [hQ'] at xq
                  have HQ := Lib.hid hQ'
                  have hQl : Q' < 4294967296 := by omega
                  clear hQ'
                  have q33 : IntKind.u32.wrap (Q' : Int) = (Q' : Int) := by rw [IntKind.wrap_u32]; omega
                  go_wp2_with fail
                  obtain ⟨U1, hU1⟩ : ∃ g : Nat → Nat, g = (fun t => if t = j + (m + 2) then D7 else U' t) := ⟨_, rfl⟩
                  have hM1 : MMem w (wr.setCell ⟨bu, j + (m + 2), none⟩ (.int .u32 D7)) bu bv bo mu mv (nx + 1) vf O U U1 j (m + 2 + 1) := by
                    rw [hU1]; exact HM.out.mem.put D7 rfl hD7 n1 n3 hbu
                  have HU1 := Lib.hid hU1
                  clear hU1 u5 z5 zo co k5 k6 k7 k8
                  obtain ⟨w9, hw9⟩ : ∃ x, x = wr.setCell ⟨bu, j + (m + 2), none⟩ (.int .u32 D7) := ⟨_, rfl⟩
                  rw [← hw9] at hM1 ⊢
                  clear hw9
                  have hA0 := hM1.ab
                  have HM1 := Lib.hid hM1
                  clear hM1
                  go_loopg [18, 235] (m + 2) (fun g s18 si wx => ∃ (i c6 : Nat) (U2 : Nat → Nat), si = .int .i64 i ∧ i ≤ m + 2 ∧ m + 2 - i = g ∧ s18 = .int .u64 c6 ∧ AB w wx bu bv bo mu mv (nx + 1) vf O U1 U2 j i c6)
                  case atStart => exact ⟨0, 0, U1, rfl, Nat.zero_le _, rfl, rfl, hA0⟩
                  case round =>
                    obtain ⟨i, c6, U2, rfl, hi, rfl, rfl, hA⟩ := hrel
                    have hc6 := hA.c1
                    by_cases hin : i < m + 2
                    · have v5 := hA.mem.rv.cell (i := i) (by omega)
                      have u5 := hA.mem.ru.cell (i := j + i) (by omega)
                      have z5 := hA.mem.ru.frozen (j + i)
                      have tv := hsv i (by omega)
                      have tu := hA.mem.su (j + i) (by omega)
                      have HA := Lib.hid hA
                      clear hA
                      obtain ⟨a5, ha5⟩ : ∃ a, vf i = a := ⟨_, rfl⟩
                      obtain ⟨d5, hd5⟩ : ∃ d, U2 (j + i) = d := ⟨_, rfl⟩
                      rw [ha5] at v5 tv
                      rw [hd5] at u5 tu
                      have HB := Lib.hid (And.intro ha5 hd5)
                      clear ha5 hd5
                      have k1 : IntKind.u64.wrap (a5 : Int) = (a5 : Int) := by rw [IntKind.wrap_u64]; omega
                      have k2 : IntKind.u64.wrap (d5 : Int) = (d5 : Int) := by rw [IntKind.wrap_u64]; omega
                      have k3 : IntKind.u64.wrap ((d5 : Int) + (a5 : Int)) = (d5 : Int) + (a5 : Int) := by rw [IntKind.wrap_u64]; omega
                      obtain ⟨t6, D6, e6, k4, k5, k6, hD6, he6, hs6⟩ : ∃ t D e : Nat, IntKind.u64.wrap ((c6 : Int) + ((d5 : Int) + (a5 : Int))) = (t : Int) ∧ IntKind.u32.wrap (t : Int) = (D : Int) ∧ (t : Int) / 4294967296 = (e : Int) ∧ D < 4294967296 ∧ e ≤ 1 ∧ D + e * 4294967296 = c6 + (d5 + a5) :=
                        ⟨c6 + (d5 + a5), (c6 + (d5 + a5)) % 4294967296, (c6 + (d5 + a5)) / 4294967296, by rw [IntKind.wrap_u64]; omega, by rw [IntKind.wrap_u32]; omega, by omega, by omega, by omega, by omega⟩
                      have HS := Lib.hid hs6
                      clear hs6
                      have b5' : (j : Int) + (i : Int) < (nx : Int) + 1 := by omega
                      go_wp2_with fail
                      go_roundg (m + 2 - (i + 1))
                      case measure => omega
                      case rel => exact ⟨i + 1, e6, _, by go_num, by omega, rfl, rfl, HA.out.put n1 n3 hbu rfl hD6 he6 (by rw [HB.out.1, HB.out.2]; exact HS.out)⟩
                    · obtain rfl : i = m + 2 := by omega
                      have u5 := hA.mem.ru.cell (i := j + (m + 2)) (by omega)
                      have z5 := hA.mem.ru.frozen (j + (m + 2))
                      have co := hA.mem.ro.cell (i := j) (by omega)
                      have zo := hA.mem.ro.frozen j
                      have HA := Lib.hid hA
                      clear hA
                      obtain ⟨d8, hd8⟩ : ∃ d, U2 (j + (m + 2)) = d := ⟨_, rfl⟩
                      rw [hd8] at u5
                      have k1 : IntKind.u32.wrap (c6 : Int) = (c6 : Int) := by rw [IntKind.wrap_u32]; omega
                      obtain ⟨D8, k2, hD8⟩ : ∃ D : Nat, IntKind.u32.wrap ((d8 : Int) + (c6 : Int)) = (D : Int) ∧ D < 4294967296 :=
                        ⟨(d8 + c6) % 4294967296, by rw [IntKind.wrap_u32]; omega, by omega⟩
                      clear hd8
                      go_wp2_with fail
                      go_roundg j
                      case measure => omega
                      case rel =>
                        have h1 : val (m + 2) (from_ j U1) = val (m + 2) (from_ j U') := by rw [HU1.out]; exact val_from_same
                        have hE := HM.out.neg (hsv.le (by omega)) (by omega) hD7 HK.out HN.out.2 h1 HA.out
                        have hsame : val (m + 2) (from_ j (fun t => if t = j + (m + 2) then D8 else U2 t)) = val (m + 2) (from_ j U2) := val_from_same
                        rw [HQ.out] at hE
                        exact ⟨j, _, _, rfl, by omega, rfl, HIc.out.1.next (by omega) ((HA.out.mem.put D8 rfl hD8 n1 n3 hbu).rebase HM1.out.lo HM1.out.hi) Q' rfl hQl n2 n3 hbo (by rw [hsame]; exact hE.1) (by rw [hsame]; exact hE.2)⟩
end Go.Proofs.Ytfopcipapphogaa
