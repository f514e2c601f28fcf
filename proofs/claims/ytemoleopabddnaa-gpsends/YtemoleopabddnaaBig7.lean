/- The reference's Add whole; Set, Neg, Abs, Sub: contracts. -/
import Derived.Test.YtemoleopabddnaaBig7a
import Derived.Deep.RegionHeld3
import Derived.Deep.AppendLies
namespace Go.Proofs.Ytemoleopabddnaa
open Go.RowKit


theorem cell_far {w : World} {g k o o' : Nat} {v : Value} (h : g ≠ k) : (w.setCell ⟨k, o, none⟩ v).cell? ⟨g, o', none⟩ = w.cell? ⟨g, o', none⟩ := World.cell?_of_block (Below.heap_setCell w ⟨k, o, none⟩ v g h)
theorem u32_info : (Try.prog.info? 62).map (fun i => (i.zero, i.size, i.bytes)) = some (some (.int .u32 0), 1, 4) := by kernel_rfl

theorem cell_alloc {w : World} {o : Obj} {g j : Nat} (h : g < w.heap.size) : (w.alloc o).drew.cell? ⟨g, j, none⟩ = w.cell? ⟨g, j, none⟩ := World.cell?_of_block (w := w) (w' := w.alloc o) (Below.heap_alloc w o g h)
def digs (n : Nat) (f : Nat → Nat) : List Value := (List.range n).map fun j => .int .u32 (f j)
theorem digs_length (n : Nat) (f : Nat → Nat) : (digs n f).length = n * 1 := by simp [digs]
theorem digs_get {n : Nat} {f : Nat → Nat} {j : Nat} {u : Value} (h : (digs n f)[j]? = some u) : j < n ∧ u = .int .u32 (f j) := by
  unfold digs at h
  rw [List.getElem?_map, Option.map_eq_some_iff] at h
  obtain ⟨a, h1, h2⟩ := h
  obtain ⟨h3, h4⟩ := List.getElem?_eq_some_iff.1 h1
  simp at h3 h4
  subst h4
  exact ⟨h3, h2.symm⟩
theorem digs_cells {w : World} {o : Obj} {b n : Nat} {f : Nat → Nat} (hd : Dig w (some ⟨b, 0, none⟩) n f) (j : Nat) (u : Value) (h : (digs n f)[j]? = some u) : (w.alloc o).drew.cell? ((⟨b, 0, none⟩ : Addr).add j) = some u := by
  obtain ⟨h1, rfl⟩ := digs_get h
  obtain ⟨h2, h3⟩ := hd.cell h1
  have e : ((⟨b, 0, none⟩ : Addr).add j) = ⟨b, j, none⟩ := by unfold Addr.add; split <;> simp_all
  rw [e]
  exact (cell_alloc h3).trans h2
theorem digs_one (n : Nat) (f : Nat → Nat) (u : Value) (h : u ∈ digs n f) : u.oneCell' = true := by
  obtain ⟨j, _, rfl⟩ := List.mem_map.1 h
  rfl
theorem owns_empty (w : World) : ((w.alloc (.cells #[] 62)).drew).ownsRow w.heap.size 62 1 (.slice (some ⟨w.heap.size, 0, none⟩) 0 0) 0 [] :=
  ⟨rfl, .inr ⟨w.heap.size, 0, #[], rfl, Nat.le_refl _, heap_alloc_new w _, Nat.le_refl _, by decide, rfl, rfl⟩⟩
theorem owns_dig {w w1 : World} {g n cap : Nat} {f : Nat → Nat} (h : w1.ownsRow w.heap.size 62 1 (.slice (some ⟨g, 0, none⟩) (0 + n) cap) (0 + n) ([] ++ digs n f))
    (hg : ((w.alloc (.cells #[] 62)).drew).grownBy w1 (Value.slice (some ⟨w.heap.size, 0, none⟩) 0 0).ownBlock) : Below w.heap.size w w1 ∧ Dig w1 (some ⟨g, 0, none⟩) n f ∧ n ≤ cap ∧ cap ≤ 9223372036854775807 := by
  have hb : Below w.heap.size w w1 := by
    refine ((((Below.refl w.heap.size w).alloc (Nat.le_refl _) (.cells #[] 62)).drew).grown hg (by simp) ?_)
    intro k hk
    simp [Value.ownBlock] at hk
    omega
  obtain ⟨h1, h2 | ⟨g', cap', cur, e, hge, hh, hnc, hcm, hsz, htk⟩⟩ := h
  · obtain ⟨e, _⟩ := h2
    simp at e
  · simp only [Value.slice.injEq, Option.some.injEq, Addr.mk.injEq] at e
    obtain ⟨⟨rfl, _⟩, _, rfl⟩ := e
    refine ⟨hb, fun _ => ⟨g, cap, fun j => cur[j]?.getD undef, rfl, by omega, ⟨cur, hh, by omega, fun i hi => ?_⟩, fun j hj => ?_⟩, by omega, by simp only [maxLen] at hcm; omega⟩
    · simp [Array.getElem?_eq_getElem (show i < cur.size by omega)]
    · have h3 : cur.toList[j]? = some (.int .u32 (f j)) := by
        have h4 : (cur.toList.take ((0 + n) * 1))[j]? = some (.int .u32 (f j)) := by
          rw [htk]
          simp [digs, hj]
        rw [List.getElem?_take] at h4
        split at h4
        · exact h4
        · cases h4
      rw [Array.getElem?_toList] at h3
      simp [h3]

set_option maxRecDepth 100000 in
set_option maxHeartbeats 4000000 in
theorem set_raw (gz gx : Nat) (s : Bool) (b n c : Nat) (f : Nat → Nat) (w : World) (hne : gx ≠ gz) (hz : Room w gz) (hg : w.rowIs gx 45 2 (two (.bool s) (.slice (some ⟨b, 0, none⟩) n c))) (hd : Dig w (some ⟨b, 0, none⟩) n f)
    (h0 : 0 < n) (hn : n ≤ 100000) (hs : Small n f) (ht : f (n - 1) ≠ 0) :
    Calls Try.prog 48 #[.pointer (some ⟨gz, 0, none⟩), .pointer (some ⟨gx, 0, none⟩)] w fun e w' =>
      e = .returned (.pointer (some ⟨gz, 0, none⟩)) ∧ w.grownBy w' (some gz) ∧ IntAt w' gz (sg s (val n f)) := by
  obtain ⟨i0, hi0, hi1⟩ := Option.map_eq_some_iff.1 u32_info
  simp only [Prod.mk.injEq] at hi1
  obtain ⟨hi1, hi2, hi3⟩ := hi1
  have c0 : w.cell? ⟨gx, 0, none⟩ = some (.bool s) := hg.cell (by decide)
  have c1 : w.cell? ⟨gx, 1, none⟩ = some (.slice (some ⟨b, 0, none⟩) n c) := hg.cell (by decide)
  have lx := hg.lt
  have lz := hz.lt
  obtain ⟨k0, hz0⟩ := hz
  have z0 := hz0.cell (i := 0) (by decide)
  have z1 := hz0.cell (i := 1) (by decide)
  have y0 := hz0.frozen 0
  have y1 := hz0.frozen 1
  go_enter Try.func48, Try.ntmps48
  go_wp2_with fail
  refine wp_region_held_drew (S := (fun w' => w'.cell? ⟨gx, 0, none⟩ = some (.bool s) ∧ w'.cell? ⟨gx, 1, none⟩ = some (.slice (some ⟨b, 0, none⟩) n c))) (by kernel_rfl) ⟨c0, c1⟩ (fun hHeld => ?_)
  refine wpAnyH_take (i := 0) (v := ?_) (by simp only [List.getElem?_toArray, List.getElem?_cons_zero] <;> rfl) (by kernel_rfl) (by kernel_rfl) (by kernel_rfl) (by exact fun _ _ _ h => h) (Or.inl ⟨by rfl, ?_⟩) hHeld ?_
  rotate_left
  · intro w hSw; (try dsimp only at hSw); go_simp; (try with_reducible rfl)
  (try simp only [Act.put, List.setIfInBounds_toArray, List.set_cons_zero, List.set_cons_succ])
  refine wpAnyH_take (i := 1) (v := ?_) (by simp only [List.getElem?_toArray, List.getElem?_cons_succ, List.getElem?_cons_zero] <;> rfl) (by kernel_rfl) (by kernel_rfl) (by kernel_rfl) (by exact fun _ _ _ h => h) (Or.inl ⟨by rfl, ?_⟩) hHeld ?_
  rotate_left
  · intro w hSw; (try dsimp only at hSw); go_simp; (try with_reducible rfl)
  (try simp only [Act.put, List.setIfInBounds_toArray, List.set_cons_zero, List.set_cons_succ])
  refine wpAnyH_take (i := 2) (v := ?_) (by simp only [List.getElem?_toArray, List.getElem?_cons_succ, List.getElem?_cons_zero] <;> rfl) (by kernel_rfl) (by kernel_rfl) (by kernel_rfl) (by exact fun _ _ _ h => h) (Or.inl ⟨by rfl, ?_⟩) hHeld ?_
  rotate_left
  · intro w hSw; (try dsimp only at hSw); go_simp; (try with_reducible rfl)
  (try simp only [Act.put, List.setIfInBounds_toArray, List.set_cons_zero, List.set_cons_succ])
  refine wpAnyH_take (i := 3) (v := ?_) (by simp only [List.getElem?_toArray, List.getElem?_cons_succ, List.getElem?_cons_zero] <;> rfl) (by kernel_rfl) (by kernel_rfl) (by kernel_rfl) (by exact fun _ _ _ h => h) (Or.inl ⟨by rfl, ?_⟩) hHeld ?_
  rotate_left
  · intro w hSw; (try dsimp only at hSw); go_simp; (try with_reducible rfl)
  (try simp only [Act.put, List.setIfInBounds_toArray, List.set_cons_zero, List.set_cons_succ])
  refine wpAnyH_take (i := 4) (v := ?_) (by simp only [List.getElem?_toArray, List.getElem?_cons_succ, List.getElem?_cons_zero] <;> rfl) (by kernel_rfl) (by kernel_rfl) (by kernel_rfl) (by exact fun _ _ _ h => h) (Or.inl ⟨by rfl, ?_⟩) hHeld ?_
  rotate_left
  · intro w hSw; (try dsimp only at hSw); go_simp; (try with_reducible rfl)
  (try simp only [Act.put, List.setIfInBounds_toArray, List.set_cons_zero, List.set_cons_succ])
  refine wpAnyH_take (i := 5) (v := ?_) (by simp only [List.getElem?_toArray, List.getElem?_cons_succ, List.getElem?_cons_zero] <;> rfl) (by kernel_rfl) (by kernel_rfl) (by kernel_rfl) (by exact fun _ _ _ h => h) (Or.inl ⟨by rfl, ?_⟩) hHeld ?_
  rotate_left
  · intro w hSw; (try dsimp only at hSw); go_simp; (try with_reducible rfl)
  (try simp only [Act.put, List.setIfInBounds_toArray, List.set_cons_zero, List.set_cons_succ])
  refine wpAnyH_take (i := 7) (v := ?_) (by simp only [List.getElem?_toArray, List.getElem?_cons_succ, List.getElem?_cons_zero] <;> rfl) (by kernel_rfl) (by kernel_rfl) (by kernel_rfl) (by exact fun _ _ _ h => h) (Or.inl ⟨by rfl, ?_⟩) hHeld ?_
  rotate_left
  · intro w hSw; (try dsimp only at hSw); go_simp; (try with_reducible rfl)
  (try simp only [Act.put, List.setIfInBounds_toArray, List.set_cons_zero, List.set_cons_succ])
  refine wpAnyH_take (i := 8) (v := ?_) (by simp only [List.getElem?_toArray, List.getElem?_cons_succ, List.getElem?_cons_zero] <;> rfl) (by kernel_rfl) (by kernel_rfl) (by kernel_rfl) (by exact fun _ _ _ h => h) (Or.inl ⟨by rfl, ?_⟩) hHeld ?_
  rotate_left
  · intro w hSw; (try dsimp only at hSw); go_simp; (try with_reducible rfl)
  (try simp only [Act.put, List.setIfInBounds_toArray, List.set_cons_zero, List.set_cons_succ])
  refine wpAnyH_take (i := 9) (v := ?_) (by simp only [List.getElem?_toArray, List.getElem?_cons_succ, List.getElem?_cons_zero] <;> rfl) (by kernel_rfl) (by kernel_rfl) (by kernel_rfl) (by exact fun _ _ _ h => h) (Or.inl ⟨by rfl, ?_⟩) hHeld ?_
  rotate_left
  · intro w hSw; (try dsimp only at hSw); go_simp; (try with_reducible rfl)
  (try simp only [Act.put, List.setIfInBounds_toArray, List.set_cons_zero, List.set_cons_succ])
  refine wpAnyH_take (i := 10) (v := ?_) (by simp only [List.getElem?_toArray, List.getElem?_cons_succ, List.getElem?_cons_zero] <;> rfl) (by kernel_rfl) (by kernel_rfl) (by kernel_rfl) (by exact fun _ _ _ h => h) (Or.inl ⟨by rfl, ?_⟩) hHeld ?_
  rotate_left
  · intro w hSw; (try dsimp only at hSw); go_simp; (try with_reducible rfl)
  (try simp only [Act.put, List.setIfInBounds_toArray, List.set_cons_zero, List.set_cons_succ])
  refine wpAnyH_ready (rs := [6]) (by kernel_rfl) (by simp) ?_
  refine AllReadyH.cons (by simp only [List.getElem?_toArray, List.getElem?_cons_succ, List.getElem?_cons_zero] <;> rfl) (fun K hK => ?_) AllReadyH.nil
  go_simp
  refine hK.out _ _ ?_ (fun hHeld => ?_)
  · exact ⟨(cell_alloc lx).trans c0, (cell_alloc lx).trans c1⟩
  clear hK K
  (try simp only [Act.put, List.setIfInBounds_toArray, List.set_cons_zero, List.set_cons_succ])
  refine wpAnyH_ready (rs := [11]) (by kernel_rfl) (by simp) ?_
  refine AllReadyH.cons (by simp only [List.getElem?_toArray, List.getElem?_cons_succ, List.getElem?_cons_zero] <;> rfl) (fun K hK => ?_) AllReadyH.nil
  refine step_append_lies ((w.alloc (.cells #[] 62)).drew) rfl (.tmp 11) (.tmp 15) 43 rfl w.heap.size 62 i0 (.int .u32 0) 1 4 Try.underlying43 hi0 hi1 hi2 hi3 rfl (by decide) (.slice (some ⟨w.heap.size, 0, none⟩) 0 0) 0 [] rfl (owns_empty w)
    ⟨b, 0, none⟩ n c (digs n f) rfl (digs_length n f) (digs_cells hd) (digs_one n f) h0 (by simp only [maxLen]; omega) (by omega) (by simp) (w.heap.size + 1) (by simp) ?_
  intro g cap w1 how hgw hat hlt
  obtain ⟨hbw, hD, hcn, hcm⟩ := owns_dig how hgw
  have w0 := (hbw.cell (p := ⟨gz, 0, none⟩) lz).trans z0
  have w2 := (hbw.cell (p := ⟨gz, 1, none⟩) lz).trans z1
  have v0 := (hbw.frozen (p := ⟨gz, 0, none⟩) lz).trans y0
  have v1 := (hbw.frozen (p := ⟨gz, 1, none⟩) lz).trans y1
  have x0 := (hbw.cell (p := ⟨gx, 0, none⟩) lx).trans c0
  have x1 := (hbw.cell (p := ⟨gx, 1, none⟩) lx).trans c1
  clear how hgw hat
  refine hK.out _ _ ⟨x0, x1⟩ (fun hHeld => ?_)
  clear hK K
  (try simp only [Act.put, List.setIfInBounds_toArray, List.set_cons_zero, List.set_cons_succ])
  refine wpAnyH_take (i := 12) (v := ?_) (by simp only [List.getElem?_toArray, List.getElem?_cons_succ, List.getElem?_cons_zero] <;> rfl) (by kernel_rfl) (by kernel_rfl) (by kernel_rfl) (by exact fun _ _ _ h => h) (Or.inl ⟨by rfl, ?_⟩) hHeld ?_
  rotate_left
  · intro w hSw; (try dsimp only at hSw); go_simp; (try with_reducible rfl)
  (try simp only [Act.put, List.setIfInBounds_toArray, List.set_cons_zero, List.set_cons_succ])
  refine wpAnyH_take (i := 13) (v := ?_) (by simp only [List.getElem?_toArray, List.getElem?_cons_succ, List.getElem?_cons_zero] <;> rfl) (by kernel_rfl) (by kernel_rfl) (by kernel_rfl) (by exact fun _ _ _ h => h) (Or.inl ⟨by rfl, ?_⟩) hHeld ?_
  rotate_left
  · intro w hSw; (try dsimp only at hSw); go_simp; (try with_reducible rfl)
  (try simp only [Act.put, List.setIfInBounds_toArray, List.set_cons_zero, List.set_cons_succ])
  refine wpAnyH_ready (rs := [14]) (by kernel_rfl) (by simp) ?_
  refine AllReadyH.cons (by simp only [List.getElem?_toArray, List.getElem?_cons_succ, List.getElem?_cons_zero] <;> rfl) (fun K hK => ?_) AllReadyH.nil
  go_simp
  refine hK.out _ _ ?_ (fun hHeld => ?_)
  · (try dsimp only); exact ⟨(cell_far hne).trans x0, (cell_far hne).trans x1⟩
  clear hK K
  (try simp only [Act.put, List.setIfInBounds_toArray, List.set_cons_zero, List.set_cons_succ])
  refine wpAnyH_take (i := 15) (v := ?_) (by simp only [List.getElem?_toArray, List.getElem?_cons_succ, List.getElem?_cons_zero] <;> rfl) (by kernel_rfl) (by kernel_rfl) (by kernel_rfl) (by exact fun _ _ _ h => h) (Or.inl ⟨by rfl, ?_⟩) hHeld ?_
  rotate_left
  · intro w hSw; (try dsimp only at hSw); go_simp; (try with_reducible rfl)
  (try simp only [Act.put, List.setIfInBounds_toArray, List.set_cons_zero, List.set_cons_succ])
  refine wpAnyH_take (i := 16) (v := ?_) (by simp only [List.getElem?_toArray, List.getElem?_cons_succ, List.getElem?_cons_zero] <;> rfl) (by kernel_rfl) (by kernel_rfl) (by kernel_rfl) (by exact fun _ _ _ h => h) (Or.inl ⟨by rfl, ?_⟩) hHeld ?_
  rotate_left
  · intro w hSw; (try dsimp only at hSw); go_simp; (try with_reducible rfl)
  (try simp only [Act.put, List.setIfInBounds_toArray, List.set_cons_zero, List.set_cons_succ])
  refine wpAnyH_ready (rs := [17]) (by kernel_rfl) (by simp) ?_
  refine AllReadyH.cons (by simp only [List.getElem?_toArray, List.getElem?_cons_succ, List.getElem?_cons_zero] <;> rfl) (fun K hK => ?_) AllReadyH.nil
  go_simp
  refine hK.out _ _ ?_ (fun hHeld => ?_)
  · (try dsimp only); exact ⟨(cell_far hne).trans ((cell_far hne).trans x0), (cell_far hne).trans ((cell_far hne).trans x1)⟩
  clear hK K
  (try simp only [Act.put, List.setIfInBounds_toArray, List.set_cons_zero, List.set_cons_succ])
  refine wpAnyH_done (by kernel_rfl) ?_ _
  go_wp2
  go_ret
  have hz1 := hz0.of_block (hbw.block gz lz)
  have hgr : w1.grownBy ((w1.setCell ⟨gz, 0, none⟩ (.bool s)).setCell ⟨gz, 1, none⟩ (.slice (some ⟨g, 0, none⟩) n cap)) (some gz) := grown_here (grown_here (World.grownBy.refl w1 _) 0 _) 1 _
  exact ⟨rfl, grown_trans (grown_of_below hbw) hgr, s, some ⟨g, 0, none⟩, n, cap, f, two_of hz1 _ _, hcn, ⟨hcm, hn⟩, hD.only hz1 hgr, hs, fun _ => ht, fun h => by omega, rfl⟩
end Go.Proofs.Ytemoleopabddnaa
