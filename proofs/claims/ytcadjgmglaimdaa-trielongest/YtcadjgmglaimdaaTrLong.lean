/- What is told is of a prefix that the address is within, and it is within no longer one. -/
import Derived.Test.YtcadjgmglaimdaaTrMore
namespace Go.Proofs.Ytcadjgmglaimdaa
open Go.RowKit Go.Maps

/-- Is it the one? -/
noncomputable def isOne (M T : Int) (x : Nat) (p : Pf) : Bool := (p.bits == M) && ((p.led == T) && inB x p)
structure Caught (w : World) (bm bt ba g : Nat) (M T : Int) (a : Ad) : Prop where
  m : w.cell? ⟨bm, 0, none⟩ = some (.int .i64 M)
  t : w.cell? ⟨bt, 0, none⟩ = some (.slice (some ⟨g, 0, none⟩) 1 1)
  g : w.cell? ⟨g, 0, none⟩ = some (.int .i64 T)
  a : AdAt w ba 0 a
theorem Caught.below {w w' : World} {bm bt ba g : Nat} {M T : Int} {a : Ad} (h : Caught w bm bt ba g M T a) (hb : Below w.heap.size w w') : Caught w' bm bt ba g M T a :=
  ⟨(hb.cell (p := ⟨bm, 0, none⟩) (World.block_lt_of_cell? _ _ h.m)).trans h.m, (hb.cell (p := ⟨bt, 0, none⟩) (World.block_lt_of_cell? _ _ h.t)).trans h.t, (hb.cell (p := ⟨g, 0, none⟩) (World.block_lt_of_cell? _ _ h.g)).trans h.g, h.a.below hb (World.block_lt_of_cell? _ _ h.a.1)⟩

set_option maxRecDepth 100000 in
set_option maxHeartbeats 4000000 in
theorem one_any {w : World} {bm bt ba g : Nat} {M T : Int} {a : Ad} (h : Caught w bm bt ba g M T a) (ha : a.Ok) {p : Pf} (hp : p.ad.Ok) :
    Calls Try.prog 17 #[.agg #[.int .u8 p.ad.a0, .int .u8 p.ad.a1, .int .u8 p.ad.a2, .int .u8 p.ad.a3, .int .i64 p.bits, .int .i64 p.led], .pointer (some ⟨bm, 0, none⟩), .pointer (some ⟨bt, 0, none⟩), .pointer (some ⟨ba, 0, none⟩)] w fun e w' => e = .returned (.bool (isOne M T a.num p)) ∧ Below w.heap.size w w' := by
  have HW : Hid (∀ w, Calls Try.prog 12 #[.agg #[.int .u8 a.a0, .int .u8 a.a1, .int .u8 a.a2, .int .u8 a.a3], .agg #[.int .u8 p.ad.a0, .int .u8 p.ad.a1, .int .u8 p.ad.a2, .int .u8 p.ad.a3, .int .i64 p.bits, .int .i64 p.led]] w fun e w' => e = .returned (.bool (inB a.num p)) ∧ Below w.heap.size w w') := Lib.hid (fun w => within_any a p ha hp w)
  have hb0 : Below w.heap.size w (w.alloc (.cells #[.int .u8 p.ad.a0, .int .u8 p.ad.a1, .int .u8 p.ad.a2, .int .u8 p.ad.a3, .int .i64 p.bits, .int .i64 p.led] 26)) := (Below.refl _ _).alloc (Nat.le_refl _) _
  have hn : (w.alloc (.cells #[.int .u8 p.ad.a0, .int .u8 p.ad.a1, .int .u8 p.ad.a2, .int .u8 p.ad.a3, .int .i64 p.bits, .int .i64 p.led] 26)).heap[w.heap.size]? = some (.cells #[.int .u8 p.ad.a0, .int .u8 p.ad.a1, .int .u8 p.ad.a2, .int .u8 p.ad.a3, .int .i64 p.bits, .int .i64 p.led] 26 (0, 0)) := heap_alloc_new w _
  have HS : Hid (∀ W, Below (w.alloc (.cells #[.int .u8 p.ad.a0, .int .u8 p.ad.a1, .int .u8 p.ad.a2, .int .u8 p.ad.a3, .int .i64 p.bits, .int .i64 p.led] 26)).heap.size (w.alloc (.cells #[.int .u8 p.ad.a0, .int .u8 p.ad.a1, .int .u8 p.ad.a2, .int .u8 p.ad.a3, .int .i64 p.bits, .int .i64 p.led] 26)) W → (fun W => (W.cell? ⟨w.heap.size, 0, none⟩ = some (.int .u8 p.ad.a0) ∧ W.cell? ⟨w.heap.size, 1, none⟩ = some (.int .u8 p.ad.a1) ∧ W.cell? ⟨w.heap.size, 2, none⟩ = some (.int .u8 p.ad.a2) ∧ W.cell? ⟨w.heap.size, 3, none⟩ = some (.int .u8 p.ad.a3) ∧ W.cell? ⟨w.heap.size, 4, none⟩ = some (.int .i64 p.bits) ∧ W.cell? ⟨w.heap.size, 5, none⟩ = some (.int .i64 p.led)) ∧ (W.cell? ⟨ba, 0, none⟩ = some (.int .u8 a.a0) ∧ W.cell? ⟨ba, 1, none⟩ = some (.int .u8 a.a1) ∧ W.cell? ⟨ba, 2, none⟩ = some (.int .u8 a.a2) ∧ W.cell? ⟨ba, 3, none⟩ = some (.int .u8 a.a3)) ∧ W.cell? ⟨bm, 0, none⟩ = some (.int .i64 M) ∧ W.cell? ⟨bt, 0, none⟩ = some (.slice (some ⟨g, 0, none⟩) 1 1) ∧ W.cell? ⟨g, 0, none⟩ = some (.int .i64 T)) W) := Lib.hid (fun W hW => by
    have e := (hW.block w.heap.size (by simp)).trans hn
    have k := (h.below hb0).below hW
    obtain ⟨z0, z1, z2, z3⟩ := k.a
    simp only [Nat.zero_add] at z0 z1 z2 z3
    exact ⟨⟨cell_of_row _ _ 0 _ _ _ e, cell_of_row _ _ 1 _ _ _ e, cell_of_row _ _ 2 _ _ _ e, cell_of_row _ _ 3 _ _ _ e, cell_of_row _ _ 4 _ _ _ e, cell_of_row _ _ 5 _ _ _ e⟩, ⟨z0, z1, z2, z3⟩, k.m, k.t, k.g⟩)
  have HB : Hid (∀ W, Below (w.alloc (.cells #[.int .u8 p.ad.a0, .int .u8 p.ad.a1, .int .u8 p.ad.a2, .int .u8 p.ad.a3, .int .i64 p.bits, .int .i64 p.led] 26)).heap.size (w.alloc (.cells #[.int .u8 p.ad.a0, .int .u8 p.ad.a1, .int .u8 p.ad.a2, .int .u8 p.ad.a3, .int .i64 p.bits, .int .i64 p.led] 26)) W → Below w.heap.size w W) := Lib.hid (fun W hW => hb0.trans (hW.mono hb0.size))
  clear h ha hp hb0 hn
  unfold isOne
  generalize inB a.num p = I at *
  cases c1 : (p.bits == M) with
  | false =>
    go_enter Try.func17, Try.ntmps17
    go_upto_region 1 with fail
    generalize w.alloc (.cells #[.int .u8 p.ad.a0, .int .u8 p.ad.a1, .int .u8 p.ad.a2, .int .u8 p.ad.a3, .int .i64 p.bits, .int .i64 p.led] 26) = m at *
    refine wp_region_held_drew (S := (fun W => (W.cell? ⟨w.heap.size, 0, none⟩ = some (.int .u8 p.ad.a0) ∧ W.cell? ⟨w.heap.size, 1, none⟩ = some (.int .u8 p.ad.a1) ∧ W.cell? ⟨w.heap.size, 2, none⟩ = some (.int .u8 p.ad.a2) ∧ W.cell? ⟨w.heap.size, 3, none⟩ = some (.int .u8 p.ad.a3) ∧ W.cell? ⟨w.heap.size, 4, none⟩ = some (.int .i64 p.bits) ∧ W.cell? ⟨w.heap.size, 5, none⟩ = some (.int .i64 p.led)) ∧ (W.cell? ⟨ba, 0, none⟩ = some (.int .u8 a.a0) ∧ W.cell? ⟨ba, 1, none⟩ = some (.int .u8 a.a1) ∧ W.cell? ⟨ba, 2, none⟩ = some (.int .u8 a.a2) ∧ W.cell? ⟨ba, 3, none⟩ = some (.int .u8 a.a3)) ∧ W.cell? ⟨bm, 0, none⟩ = some (.int .i64 M) ∧ W.cell? ⟨bt, 0, none⟩ = some (.slice (some ⟨g, 0, none⟩) 1 1) ∧ W.cell? ⟨g, 0, none⟩ = some (.int .i64 T))) (by kernel_rfl) (HS.out _ (Below.refl _ _).drew) (fun hHeld => ?_)
    obtain ⟨w0, hw0⟩ : ∃ W0, W0 = m.drew := ⟨_, rfl⟩
    have HB0 : Hid (Below m.heap.size m w0) := Lib.hid (by rw [hw0]; exact (Below.refl _ _).drew)
    rw [← hw0] at hHeld ⊢
    clear hw0
    refine wpAnyH_take (i := 0) (v := ?_) (by simp only [List.getElem?_toArray, List.getElem?_cons_zero] <;> rfl) (by kernel_rfl) (by kernel_rfl) (by kernel_rfl) (by exact fun _ _ _ h => h) (Or.inl ⟨by rfl, ?_⟩) hHeld ?_
    rotate_left
    · intro w hSw; (try dsimp only at hSw); go_simp; (try with_reducible rfl)
    (try simp only [Act.put, List.setIfInBounds_toArray, List.set_cons_zero, List.set_cons_succ])
    refine wpAnyH_take (i := 1) (v := ?_) (by simp only [List.getElem?_toArray, List.getElem?_cons_succ, List.getElem?_cons_zero] <;> rfl) (by kernel_rfl) (by kernel_rfl) (by kernel_rfl) (by exact fun _ _ _ h => h) (Or.inl ⟨by rfl, ?_⟩) hHeld ?_
    rotate_left
    · intro w hSw; (try dsimp only at hSw); go_simp; (try with_reducible rfl)
    (try simp only [Act.put, List.setIfInBounds_toArray, List.set_cons_zero, List.set_cons_succ])
    refine wpAnyH_take (i := 2) (v := ?_) (by simp only [List.getElem?_toArray, List.getElem?_cons_succ, List.getElem?_cons_zero] <;> rfl) (by kernel_rfl) (by kernel_rfl) (by kernel_rfl) (by exact fun _ _ _ h => h) (Or.inl ⟨by rfl, ?_⟩) hHeld ?_
    rotate_left
    · intro w hSw; (try dsimp only at hSw); go_simp; (try with_reducible rfl)
    (try simp only [Act.put, List.setIfInBounds_toArray, List.set_cons_zero, List.set_cons_succ])
    refine wpAnyH_take (i := 3) (v := ?_) (by simp only [List.getElem?_toArray, List.getElem?_cons_succ, List.getElem?_cons_zero] <;> rfl) (by kernel_rfl) (by kernel_rfl) (by kernel_rfl) (by exact fun _ _ _ h => h) (Or.inl ⟨by rfl, ?_⟩) hHeld ?_
    rotate_left
    · intro w hSw; (try dsimp only at hSw); go_simp; (try with_reducible rfl)
    (try simp only [Act.put, List.setIfInBounds_toArray, List.set_cons_zero, List.set_cons_succ])
    refine wpAnyH_take (i := 4) (v := ?_) (by simp only [List.getElem?_toArray, List.getElem?_cons_succ, List.getElem?_cons_zero] <;> rfl) (by kernel_rfl) (by kernel_rfl) (by kernel_rfl) (by exact fun _ _ _ h => h) (Or.inl ⟨by rfl, ?_⟩) hHeld ?_
    rotate_left
    · intro w hSw; (try dsimp only at hSw); go_simp; (try with_reducible rfl)
    (try simp only [Act.put, List.setIfInBounds_toArray, List.set_cons_zero, List.set_cons_succ])
    refine wpAnyH_take (i := 5) (v := undef) (by simp only [List.getElem?_toArray, List.getElem?_cons_succ, List.getElem?_cons_zero] <;> rfl) (by kernel_rfl) (by kernel_rfl) (by kernel_rfl) (by exact fun _ _ _ h => h) (Or.inr ⟨by rfl, rfl⟩) hHeld ?_
    (try simp only [Act.put, List.setIfInBounds_toArray, List.set_cons_zero, List.set_cons_succ])
    refine wpAnyH_take (i := 6) (v := undef) (by simp only [List.getElem?_toArray, List.getElem?_cons_succ, List.getElem?_cons_zero] <;> rfl) (by kernel_rfl) (by kernel_rfl) (by kernel_rfl) (by exact fun _ _ _ h => h) (Or.inr ⟨by rfl, rfl⟩) hHeld ?_
    (try simp only [Act.put, List.setIfInBounds_toArray, List.set_cons_zero, List.set_cons_succ])
    refine wpAnyH_take (i := 7) (v := undef) (by simp only [List.getElem?_toArray, List.getElem?_cons_succ, List.getElem?_cons_zero] <;> rfl) (by kernel_rfl) (by kernel_rfl) (by kernel_rfl) (by exact fun _ _ _ h => h) (Or.inr ⟨by rfl, rfl⟩) hHeld ?_
    (try simp only [Act.put, List.setIfInBounds_toArray, List.set_cons_zero, List.set_cons_succ])
    refine wpAnyH_take (i := 8) (v := undef) (by simp only [List.getElem?_toArray, List.getElem?_cons_succ, List.getElem?_cons_zero] <;> rfl) (by kernel_rfl) (by kernel_rfl) (by kernel_rfl) (by exact fun _ _ _ h => h) (Or.inr ⟨by rfl, rfl⟩) hHeld ?_
    (try simp only [Act.put, List.setIfInBounds_toArray, List.set_cons_zero, List.set_cons_succ])
    refine wpAnyH_take (i := 9) (v := undef) (by simp only [List.getElem?_toArray, List.getElem?_cons_succ, List.getElem?_cons_zero] <;> rfl) (by kernel_rfl) (by kernel_rfl) (by kernel_rfl) (by exact fun _ _ _ h => h) (Or.inr ⟨by rfl, rfl⟩) hHeld ?_
    (try simp only [Act.put, List.setIfInBounds_toArray, List.set_cons_zero, List.set_cons_succ])
    refine wpAnyH_take (i := 10) (v := undef) (by simp only [List.getElem?_toArray, List.getElem?_cons_succ, List.getElem?_cons_zero] <;> rfl) (by kernel_rfl) (by kernel_rfl) (by kernel_rfl) (by exact fun _ _ _ h => h) (Or.inr ⟨by rfl, rfl⟩) hHeld ?_
    (try simp only [Act.put, List.setIfInBounds_toArray, List.set_cons_zero, List.set_cons_succ])
    refine wpAnyH_take (i := 11) (v := ?_) (by simp only [List.getElem?_toArray, List.getElem?_cons_succ, List.getElem?_cons_zero] <;> rfl) (by kernel_rfl) (by kernel_rfl) (by kernel_rfl) (by exact fun _ _ _ h => h) (Or.inl ⟨by rfl, ?_⟩) hHeld ?_
    rotate_left
    · intro w hSw; (try dsimp only at hSw); go_simp; (try with_reducible rfl)
    (try simp only [Act.put, List.setIfInBounds_toArray, List.set_cons_zero, List.set_cons_succ])
    refine wpAnyH_take (i := 12) (v := ?_) (by simp only [List.getElem?_toArray, List.getElem?_cons_succ, List.getElem?_cons_zero] <;> rfl) (by kernel_rfl) (by kernel_rfl) (by kernel_rfl) (by exact fun _ _ _ h => h) (Or.inl ⟨by rfl, ?_⟩) hHeld ?_
    rotate_left
    · intro w hSw; (try dsimp only at hSw); go_simp; (try with_reducible rfl)
    (try simp only [Act.put, List.setIfInBounds_toArray, List.set_cons_zero, List.set_cons_succ])
    refine wpAnyH_take (i := 13) (v := undef) (by simp only [List.getElem?_toArray, List.getElem?_cons_succ, List.getElem?_cons_zero] <;> rfl) (by kernel_rfl) (by kernel_rfl) (by kernel_rfl) (by exact fun _ _ _ h => h) (Or.inr ⟨by rfl, rfl⟩) hHeld ?_
    (try simp only [Act.put, List.setIfInBounds_toArray, List.set_cons_zero, List.set_cons_succ])
    refine wpAnyH_take (i := 14) (v := undef) (by simp only [List.getElem?_toArray, List.getElem?_cons_succ, List.getElem?_cons_zero] <;> rfl) (by kernel_rfl) (by kernel_rfl) (by kernel_rfl) (by exact fun _ _ _ h => h) (Or.inr ⟨by rfl, rfl⟩) hHeld ?_
    (try simp only [Act.put, List.setIfInBounds_toArray, List.set_cons_zero, List.set_cons_succ])
    refine wpAnyH_ready (rs := [15]) (by kernel_rfl) (by simp) ?_
    refine AllReadyH.cons (by simp only [List.getElem?_toArray, List.getElem?_cons_succ, List.getElem?_cons_zero] <;> rfl) (fun K hK => ?_) AllReadyH.nil
    go_simp
    refine hK.out _ _ ?_ (fun hHeld => ?_)
    · exact hHeld
    clear hK K
    (try simp only [Act.put, List.setIfInBounds_toArray, List.set_cons_zero, List.set_cons_succ])
    refine wpAnyH_take (i := 16) (v := ?_) (by simp only [List.getElem?_toArray, List.getElem?_cons_succ, List.getElem?_cons_zero] <;> rfl) (by kernel_rfl) (by kernel_rfl) (by kernel_rfl) (by exact fun _ _ _ h => h) (Or.inl ⟨by rfl, ?_⟩) hHeld ?_
    rotate_left
    · intro w hSw; (try dsimp only at hSw); go_simp; (try with_reducible rfl)
    (try simp only [Act.put, List.setIfInBounds_toArray, List.set_cons_zero, List.set_cons_succ])
    refine wpAnyH_take (i := 17) (v := ?_) (by simp only [List.getElem?_toArray, List.getElem?_cons_succ, List.getElem?_cons_zero] <;> rfl) (by kernel_rfl) (by kernel_rfl) (by kernel_rfl) (by exact fun _ _ _ h => h) (Or.inl ⟨by rfl, ?_⟩) hHeld ?_
    rotate_left
    · intro w hSw; (try dsimp only at hSw); go_simp; (try with_reducible rfl)
    (try simp only [Act.put, List.setIfInBounds_toArray, List.set_cons_zero, List.set_cons_succ])
    refine wpAnyH_done (by kernel_rfl) ?_ _
    go_wp2_with fail
    go_ret
    exact ⟨rfl, HB.out _ HB0.out⟩
  | true =>
    cases c2 : (p.led == T) with
    | false =>
      go_enter Try.func17, Try.ntmps17
      go_upto_region 1 with fail
      generalize w.alloc (.cells #[.int .u8 p.ad.a0, .int .u8 p.ad.a1, .int .u8 p.ad.a2, .int .u8 p.ad.a3, .int .i64 p.bits, .int .i64 p.led] 26) = m at *
      refine wp_region_held_drew (S := (fun W => (W.cell? ⟨w.heap.size, 0, none⟩ = some (.int .u8 p.ad.a0) ∧ W.cell? ⟨w.heap.size, 1, none⟩ = some (.int .u8 p.ad.a1) ∧ W.cell? ⟨w.heap.size, 2, none⟩ = some (.int .u8 p.ad.a2) ∧ W.cell? ⟨w.heap.size, 3, none⟩ = some (.int .u8 p.ad.a3) ∧ W.cell? ⟨w.heap.size, 4, none⟩ = some (.int .i64 p.bits) ∧ W.cell? ⟨w.heap.size, 5, none⟩ = some (.int .i64 p.led)) ∧ (W.cell? ⟨ba, 0, none⟩ = some (.int .u8 a.a0) ∧ W.cell? ⟨ba, 1, none⟩ = some (.int .u8 a.a1) ∧ W.cell? ⟨ba, 2, none⟩ = some (.int .u8 a.a2) ∧ W.cell? ⟨ba, 3, none⟩ = some (.int .u8 a.a3)) ∧ W.cell? ⟨bm, 0, none⟩ = some (.int .i64 M) ∧ W.cell? ⟨bt, 0, none⟩ = some (.slice (some ⟨g, 0, none⟩) 1 1) ∧ W.cell? ⟨g, 0, none⟩ = some (.int .i64 T))) (by kernel_rfl) (HS.out _ (Below.refl _ _).drew) (fun hHeld => ?_)
      obtain ⟨w0, hw0⟩ : ∃ W0, W0 = m.drew := ⟨_, rfl⟩
      have HB0 : Hid (Below m.heap.size m w0) := Lib.hid (by rw [hw0]; exact (Below.refl _ _).drew)
      rw [← hw0] at hHeld ⊢
      clear hw0
      refine wpAnyH_take (i := 0) (v := ?_) (by simp only [List.getElem?_toArray, List.getElem?_cons_zero] <;> rfl) (by kernel_rfl) (by kernel_rfl) (by kernel_rfl) (by exact fun _ _ _ h => h) (Or.inl ⟨by rfl, ?_⟩) hHeld ?_
      rotate_left
      · intro w hSw; (try dsimp only at hSw); go_simp; (try with_reducible rfl)
      (try simp only [Act.put, List.setIfInBounds_toArray, List.set_cons_zero, List.set_cons_succ])
      refine wpAnyH_take (i := 1) (v := ?_) (by simp only [List.getElem?_toArray, List.getElem?_cons_succ, List.getElem?_cons_zero] <;> rfl) (by kernel_rfl) (by kernel_rfl) (by kernel_rfl) (by exact fun _ _ _ h => h) (Or.inl ⟨by rfl, ?_⟩) hHeld ?_
      rotate_left
      · intro w hSw; (try dsimp only at hSw); go_simp; (try with_reducible rfl)
      (try simp only [Act.put, List.setIfInBounds_toArray, List.set_cons_zero, List.set_cons_succ])
      refine wpAnyH_take (i := 2) (v := ?_) (by simp only [List.getElem?_toArray, List.getElem?_cons_succ, List.getElem?_cons_zero] <;> rfl) (by kernel_rfl) (by kernel_rfl) (by kernel_rfl) (by exact fun _ _ _ h => h) (Or.inl ⟨by rfl, ?_⟩) hHeld ?_
      rotate_left
      · intro w hSw; (try dsimp only at hSw); go_simp; (try with_reducible rfl)
      (try simp only [Act.put, List.setIfInBounds_toArray, List.set_cons_zero, List.set_cons_succ])
      refine wpAnyH_take (i := 3) (v := ?_) (by simp only [List.getElem?_toArray, List.getElem?_cons_succ, List.getElem?_cons_zero] <;> rfl) (by kernel_rfl) (by kernel_rfl) (by kernel_rfl) (by exact fun _ _ _ h => h) (Or.inl ⟨by rfl, ?_⟩) hHeld ?_
      rotate_left
      · intro w hSw; (try dsimp only at hSw); go_simp; (try with_reducible rfl)
      (try simp only [Act.put, List.setIfInBounds_toArray, List.set_cons_zero, List.set_cons_succ])
      refine wpAnyH_take (i := 4) (v := ?_) (by simp only [List.getElem?_toArray, List.getElem?_cons_succ, List.getElem?_cons_zero] <;> rfl) (by kernel_rfl) (by kernel_rfl) (by kernel_rfl) (by exact fun _ _ _ h => h) (Or.inl ⟨by rfl, ?_⟩) hHeld ?_
      rotate_left
      · intro w hSw; (try dsimp only at hSw); go_simp; (try with_reducible rfl)
      (try simp only [Act.put, List.setIfInBounds_toArray, List.set_cons_zero, List.set_cons_succ])
      refine wpAnyH_take (i := 5) (v := ?_) (by simp only [List.getElem?_toArray, List.getElem?_cons_succ, List.getElem?_cons_zero] <;> rfl) (by kernel_rfl) (by kernel_rfl) (by kernel_rfl) (by exact fun _ _ _ h => h) (Or.inl ⟨by rfl, ?_⟩) hHeld ?_
      rotate_left
      · intro w hSw; (try dsimp only at hSw); go_simp; (try with_reducible rfl)
      (try simp only [Act.put, List.setIfInBounds_toArray, List.set_cons_zero, List.set_cons_succ])
      refine wpAnyH_take (i := 6) (v := ?_) (by simp only [List.getElem?_toArray, List.getElem?_cons_succ, List.getElem?_cons_zero] <;> rfl) (by kernel_rfl) (by kernel_rfl) (by kernel_rfl) (by exact fun _ _ _ h => h) (Or.inl ⟨by rfl, ?_⟩) hHeld ?_
      rotate_left
      · intro w hSw; (try dsimp only at hSw); go_simp; (try with_reducible rfl)
      (try simp only [Act.put, List.setIfInBounds_toArray, List.set_cons_zero, List.set_cons_succ])
      refine wpAnyH_take (i := 7) (v := ?_) (by simp only [List.getElem?_toArray, List.getElem?_cons_succ, List.getElem?_cons_zero] <;> rfl) (by kernel_rfl) (by kernel_rfl) (by kernel_rfl) (by exact fun _ _ _ h => h) (Or.inl ⟨by rfl, ?_⟩) hHeld ?_
      rotate_left
      · intro w hSw; (try dsimp only at hSw); go_simp; (try with_reducible rfl)
      (try simp only [Act.put, List.setIfInBounds_toArray, List.set_cons_zero, List.set_cons_succ])
      refine wpAnyH_take (i := 8) (v := ?_) (by simp only [List.getElem?_toArray, List.getElem?_cons_succ, List.getElem?_cons_zero] <;> rfl) (by kernel_rfl) (by kernel_rfl) (by kernel_rfl) (by exact fun _ _ _ h => h) (Or.inl ⟨by rfl, ?_⟩) hHeld ?_
      rotate_left
      · intro w hSw; (try dsimp only at hSw); go_simp; (try with_reducible rfl)
      (try simp only [Act.put, List.setIfInBounds_toArray, List.set_cons_zero, List.set_cons_succ])
      refine wpAnyH_take (i := 9) (v := ?_) (by simp only [List.getElem?_toArray, List.getElem?_cons_succ, List.getElem?_cons_zero] <;> rfl) (by kernel_rfl) (by kernel_rfl) (by kernel_rfl) (by exact fun _ _ _ h => h) (Or.inl ⟨by rfl, ?_⟩) hHeld ?_
      rotate_left
      · intro w hSw; (try dsimp only at hSw); go_simp; (try with_reducible rfl)
      (try simp only [Act.put, List.setIfInBounds_toArray, List.set_cons_zero, List.set_cons_succ])
      refine wpAnyH_take (i := 10) (v := ?_) (by simp only [List.getElem?_toArray, List.getElem?_cons_succ, List.getElem?_cons_zero] <;> rfl) (by kernel_rfl) (by kernel_rfl) (by kernel_rfl) (by exact fun _ _ _ h => h) (Or.inl ⟨by rfl, ?_⟩) hHeld ?_
      rotate_left
      · intro w hSw; (try dsimp only at hSw); go_simp; (try with_reducible rfl)
      (try simp only [Act.put, List.setIfInBounds_toArray, List.set_cons_zero, List.set_cons_succ])
      refine wpAnyH_take (i := 11) (v := ?_) (by simp only [List.getElem?_toArray, List.getElem?_cons_succ, List.getElem?_cons_zero] <;> rfl) (by kernel_rfl) (by kernel_rfl) (by kernel_rfl) (by exact fun _ _ _ h => h) (Or.inl ⟨by rfl, ?_⟩) hHeld ?_
      rotate_left
      · intro w hSw; (try dsimp only at hSw); go_simp; (try with_reducible rfl)
      (try simp only [Act.put, List.setIfInBounds_toArray, List.set_cons_zero, List.set_cons_succ])
      refine wpAnyH_take (i := 12) (v := ?_) (by simp only [List.getElem?_toArray, List.getElem?_cons_succ, List.getElem?_cons_zero] <;> rfl) (by kernel_rfl) (by kernel_rfl) (by kernel_rfl) (by exact fun _ _ _ h => h) (Or.inl ⟨by rfl, ?_⟩) hHeld ?_
      rotate_left
      · intro w hSw; (try dsimp only at hSw); go_simp; (try with_reducible rfl)
      (try simp only [Act.put, List.setIfInBounds_toArray, List.set_cons_zero, List.set_cons_succ])
      refine wpAnyH_take (i := 13) (v := undef) (by simp only [List.getElem?_toArray, List.getElem?_cons_succ, List.getElem?_cons_zero] <;> rfl) (by kernel_rfl) (by kernel_rfl) (by kernel_rfl) (by exact fun _ _ _ h => h) (Or.inr ⟨by rfl, rfl⟩) hHeld ?_
      (try simp only [Act.put, List.setIfInBounds_toArray, List.set_cons_zero, List.set_cons_succ])
      refine wpAnyH_take (i := 14) (v := undef) (by simp only [List.getElem?_toArray, List.getElem?_cons_succ, List.getElem?_cons_zero] <;> rfl) (by kernel_rfl) (by kernel_rfl) (by kernel_rfl) (by exact fun _ _ _ h => h) (Or.inr ⟨by rfl, rfl⟩) hHeld ?_
      (try simp only [Act.put, List.setIfInBounds_toArray, List.set_cons_zero, List.set_cons_succ])
      refine wpAnyH_ready (rs := [15]) (by kernel_rfl) (by simp) ?_
      refine AllReadyH.cons (by simp only [List.getElem?_toArray, List.getElem?_cons_succ, List.getElem?_cons_zero] <;> rfl) (fun K hK => ?_) AllReadyH.nil
      go_simp
      refine hK.out _ _ ?_ (fun hHeld => ?_)
      · exact hHeld
      clear hK K
      (try simp only [Act.put, List.setIfInBounds_toArray, List.set_cons_zero, List.set_cons_succ])
      refine wpAnyH_take (i := 16) (v := ?_) (by simp only [List.getElem?_toArray, List.getElem?_cons_succ, List.getElem?_cons_zero] <;> rfl) (by kernel_rfl) (by kernel_rfl) (by kernel_rfl) (by exact fun _ _ _ h => h) (Or.inl ⟨by rfl, ?_⟩) hHeld ?_
      rotate_left
      · intro w hSw; (try dsimp only at hSw); go_simp; (try with_reducible rfl)
      (try simp only [Act.put, List.setIfInBounds_toArray, List.set_cons_zero, List.set_cons_succ])
      refine wpAnyH_take (i := 17) (v := ?_) (by simp only [List.getElem?_toArray, List.getElem?_cons_succ, List.getElem?_cons_zero] <;> rfl) (by kernel_rfl) (by kernel_rfl) (by kernel_rfl) (by exact fun _ _ _ h => h) (Or.inl ⟨by rfl, ?_⟩) hHeld ?_
      rotate_left
      · intro w hSw; (try dsimp only at hSw); go_simp; (try with_reducible rfl)
      (try simp only [Act.put, List.setIfInBounds_toArray, List.set_cons_zero, List.set_cons_succ])
      refine wpAnyH_done (by kernel_rfl) ?_ _
      go_wp2_with fail
      go_ret
      exact ⟨rfl, HB.out _ HB0.out⟩
    | true =>
      go_enter Try.func17, Try.ntmps17
      go_upto_region 1 with fail
      generalize w.alloc (.cells #[.int .u8 p.ad.a0, .int .u8 p.ad.a1, .int .u8 p.ad.a2, .int .u8 p.ad.a3, .int .i64 p.bits, .int .i64 p.led] 26) = m at *
      refine wp_region_held_drew (S := (fun W => (W.cell? ⟨w.heap.size, 0, none⟩ = some (.int .u8 p.ad.a0) ∧ W.cell? ⟨w.heap.size, 1, none⟩ = some (.int .u8 p.ad.a1) ∧ W.cell? ⟨w.heap.size, 2, none⟩ = some (.int .u8 p.ad.a2) ∧ W.cell? ⟨w.heap.size, 3, none⟩ = some (.int .u8 p.ad.a3) ∧ W.cell? ⟨w.heap.size, 4, none⟩ = some (.int .i64 p.bits) ∧ W.cell? ⟨w.heap.size, 5, none⟩ = some (.int .i64 p.led)) ∧ (W.cell? ⟨ba, 0, none⟩ = some (.int .u8 a.a0) ∧ W.cell? ⟨ba, 1, none⟩ = some (.int .u8 a.a1) ∧ W.cell? ⟨ba, 2, none⟩ = some (.int .u8 a.a2) ∧ W.cell? ⟨ba, 3, none⟩ = some (.int .u8 a.a3)) ∧ W.cell? ⟨bm, 0, none⟩ = some (.int .i64 M) ∧ W.cell? ⟨bt, 0, none⟩ = some (.slice (some ⟨g, 0, none⟩) 1 1) ∧ W.cell? ⟨g, 0, none⟩ = some (.int .i64 T))) (by kernel_rfl) (HS.out _ (Below.refl _ _).drew) (fun hHeld => ?_)
      obtain ⟨w0, hw0⟩ : ∃ W0, W0 = m.drew := ⟨_, rfl⟩
      have HB0 : Hid (Below m.heap.size m w0) := Lib.hid (by rw [hw0]; exact (Below.refl _ _).drew)
      rw [← hw0] at hHeld ⊢
      clear hw0
      refine wpAnyH_take (i := 0) (v := ?_) (by simp only [List.getElem?_toArray, List.getElem?_cons_zero] <;> rfl) (by kernel_rfl) (by kernel_rfl) (by kernel_rfl) (by exact fun _ _ _ h => h) (Or.inl ⟨by rfl, ?_⟩) hHeld ?_
      rotate_left
      · intro w hSw; (try dsimp only at hSw); go_simp; (try with_reducible rfl)
      (try simp only [Act.put, List.setIfInBounds_toArray, List.set_cons_zero, List.set_cons_succ])
      refine wpAnyH_take (i := 1) (v := ?_) (by simp only [List.getElem?_toArray, List.getElem?_cons_succ, List.getElem?_cons_zero] <;> rfl) (by kernel_rfl) (by kernel_rfl) (by kernel_rfl) (by exact fun _ _ _ h => h) (Or.inl ⟨by rfl, ?_⟩) hHeld ?_
      rotate_left
      · intro w hSw; (try dsimp only at hSw); go_simp; (try with_reducible rfl)
      (try simp only [Act.put, List.setIfInBounds_toArray, List.set_cons_zero, List.set_cons_succ])
      refine wpAnyH_take (i := 2) (v := ?_) (by simp only [List.getElem?_toArray, List.getElem?_cons_succ, List.getElem?_cons_zero] <;> rfl) (by kernel_rfl) (by kernel_rfl) (by kernel_rfl) (by exact fun _ _ _ h => h) (Or.inl ⟨by rfl, ?_⟩) hHeld ?_
      rotate_left
      · intro w hSw; (try dsimp only at hSw); go_simp; (try with_reducible rfl)
      (try simp only [Act.put, List.setIfInBounds_toArray, List.set_cons_zero, List.set_cons_succ])
      refine wpAnyH_take (i := 3) (v := ?_) (by simp only [List.getElem?_toArray, List.getElem?_cons_succ, List.getElem?_cons_zero] <;> rfl) (by kernel_rfl) (by kernel_rfl) (by kernel_rfl) (by exact fun _ _ _ h => h) (Or.inl ⟨by rfl, ?_⟩) hHeld ?_
      rotate_left
      · intro w hSw; (try dsimp only at hSw); go_simp; (try with_reducible rfl)
      (try simp only [Act.put, List.setIfInBounds_toArray, List.set_cons_zero, List.set_cons_succ])
      refine wpAnyH_take (i := 4) (v := ?_) (by simp only [List.getElem?_toArray, List.getElem?_cons_succ, List.getElem?_cons_zero] <;> rfl) (by kernel_rfl) (by kernel_rfl) (by kernel_rfl) (by exact fun _ _ _ h => h) (Or.inl ⟨by rfl, ?_⟩) hHeld ?_
      rotate_left
      · intro w hSw; (try dsimp only at hSw); go_simp; (try with_reducible rfl)
      (try simp only [Act.put, List.setIfInBounds_toArray, List.set_cons_zero, List.set_cons_succ])
      refine wpAnyH_take (i := 5) (v := ?_) (by simp only [List.getElem?_toArray, List.getElem?_cons_succ, List.getElem?_cons_zero] <;> rfl) (by kernel_rfl) (by kernel_rfl) (by kernel_rfl) (by exact fun _ _ _ h => h) (Or.inl ⟨by rfl, ?_⟩) hHeld ?_
      rotate_left
      · intro w hSw; (try dsimp only at hSw); go_simp; (try with_reducible rfl)
      (try simp only [Act.put, List.setIfInBounds_toArray, List.set_cons_zero, List.set_cons_succ])
      refine wpAnyH_take (i := 6) (v := ?_) (by simp only [List.getElem?_toArray, List.getElem?_cons_succ, List.getElem?_cons_zero] <;> rfl) (by kernel_rfl) (by kernel_rfl) (by kernel_rfl) (by exact fun _ _ _ h => h) (Or.inl ⟨by rfl, ?_⟩) hHeld ?_
      rotate_left
      · intro w hSw; (try dsimp only at hSw); go_simp; (try with_reducible rfl)
      (try simp only [Act.put, List.setIfInBounds_toArray, List.set_cons_zero, List.set_cons_succ])
      refine wpAnyH_take (i := 7) (v := ?_) (by simp only [List.getElem?_toArray, List.getElem?_cons_succ, List.getElem?_cons_zero] <;> rfl) (by kernel_rfl) (by kernel_rfl) (by kernel_rfl) (by exact fun _ _ _ h => h) (Or.inl ⟨by rfl, ?_⟩) hHeld ?_
      rotate_left
      · intro w hSw; (try dsimp only at hSw); go_simp; (try with_reducible rfl)
      (try simp only [Act.put, List.setIfInBounds_toArray, List.set_cons_zero, List.set_cons_succ])
      refine wpAnyH_take (i := 8) (v := ?_) (by simp only [List.getElem?_toArray, List.getElem?_cons_succ, List.getElem?_cons_zero] <;> rfl) (by kernel_rfl) (by kernel_rfl) (by kernel_rfl) (by exact fun _ _ _ h => h) (Or.inl ⟨by rfl, ?_⟩) hHeld ?_
      rotate_left
      · intro w hSw; (try dsimp only at hSw); go_simp; (try with_reducible rfl)
      (try simp only [Act.put, List.setIfInBounds_toArray, List.set_cons_zero, List.set_cons_succ])
      refine wpAnyH_take (i := 9) (v := ?_) (by simp only [List.getElem?_toArray, List.getElem?_cons_succ, List.getElem?_cons_zero] <;> rfl) (by kernel_rfl) (by kernel_rfl) (by kernel_rfl) (by exact fun _ _ _ h => h) (Or.inl ⟨by rfl, ?_⟩) hHeld ?_
      rotate_left
      · intro w hSw; (try dsimp only at hSw); go_simp; (try with_reducible rfl)
      (try simp only [Act.put, List.setIfInBounds_toArray, List.set_cons_zero, List.set_cons_succ])
      refine wpAnyH_take (i := 10) (v := ?_) (by simp only [List.getElem?_toArray, List.getElem?_cons_succ, List.getElem?_cons_zero] <;> rfl) (by kernel_rfl) (by kernel_rfl) (by kernel_rfl) (by exact fun _ _ _ h => h) (Or.inl ⟨by rfl, ?_⟩) hHeld ?_
      rotate_left
      · intro w hSw; (try dsimp only at hSw); go_simp; (try with_reducible rfl)
      (try simp only [Act.put, List.setIfInBounds_toArray, List.set_cons_zero, List.set_cons_succ])
      refine wpAnyH_take (i := 11) (v := ?_) (by simp only [List.getElem?_toArray, List.getElem?_cons_succ, List.getElem?_cons_zero] <;> rfl) (by kernel_rfl) (by kernel_rfl) (by kernel_rfl) (by exact fun _ _ _ h => h) (Or.inl ⟨by rfl, ?_⟩) hHeld ?_
      rotate_left
      · intro w hSw; (try dsimp only at hSw); go_simp; (try with_reducible rfl)
      (try simp only [Act.put, List.setIfInBounds_toArray, List.set_cons_zero, List.set_cons_succ])
      refine wpAnyH_take (i := 12) (v := ?_) (by simp only [List.getElem?_toArray, List.getElem?_cons_succ, List.getElem?_cons_zero] <;> rfl) (by kernel_rfl) (by kernel_rfl) (by kernel_rfl) (by exact fun _ _ _ h => h) (Or.inl ⟨by rfl, ?_⟩) hHeld ?_
      rotate_left
      · intro w hSw; (try dsimp only at hSw); go_simp; (try with_reducible rfl)
      (try simp only [Act.put, List.setIfInBounds_toArray, List.set_cons_zero, List.set_cons_succ])
      refine wpAnyH_take (i := 13) (v := ?_) (by simp only [List.getElem?_toArray, List.getElem?_cons_succ, List.getElem?_cons_zero] <;> rfl) (by kernel_rfl) (by kernel_rfl) (by kernel_rfl) (by exact fun _ _ _ h => h) (Or.inl ⟨by rfl, ?_⟩) hHeld ?_
      rotate_left
      · intro w hSw; (try dsimp only at hSw); go_simp; (try with_reducible rfl)
      (try simp only [Act.put, List.setIfInBounds_toArray, List.set_cons_zero, List.set_cons_succ])
      refine wpAnyH_take (i := 14) (v := ?_) (by simp only [List.getElem?_toArray, List.getElem?_cons_succ, List.getElem?_cons_zero] <;> rfl) (by kernel_rfl) (by kernel_rfl) (by kernel_rfl) (by exact fun _ _ _ h => h) (Or.inl ⟨by rfl, ?_⟩) hHeld ?_
      rotate_left
      · intro w hSw; (try dsimp only at hSw); go_simp; (try with_reducible rfl)
      (try simp only [Act.put, List.setIfInBounds_toArray, List.set_cons_zero, List.set_cons_succ])
      refine wpAnyH_ready (rs := [15]) (by kernel_rfl) (by simp) ?_
      refine AllReadyH.cons (by simp only [List.getElem?_toArray, List.getElem?_cons_succ, List.getElem?_cons_zero] <;> rfl) (fun K hK => ?_) AllReadyH.nil
      go_simp
      go_at_call 12
      refine (HW.out _).mono ?_
      rintro e w1 ⟨rfl, hb1⟩
      have HB1 := Lib.hid (HB0.out.trans (hb1.mono HB0.out.size))
      clear hb1
      go_wp2_with fail
      refine hK.out _ _ ?_ (fun hHeld => ?_)
      · exact HS.out _ HB1.out
      clear hK K
      (try simp only [Act.put, List.setIfInBounds_toArray, List.set_cons_zero, List.set_cons_succ])
      refine wpAnyH_take (i := 16) (v := ?_) (by simp only [List.getElem?_toArray, List.getElem?_cons_succ, List.getElem?_cons_zero] <;> rfl) (by kernel_rfl) (by kernel_rfl) (by kernel_rfl) (by exact fun _ _ _ h => h) (Or.inl ⟨by rfl, ?_⟩) hHeld ?_
      rotate_left
      · intro w hSw; (try dsimp only at hSw); go_simp; (try with_reducible rfl)
      (try simp only [Act.put, List.setIfInBounds_toArray, List.set_cons_zero, List.set_cons_succ])
      refine wpAnyH_take (i := 17) (v := ?_) (by simp only [List.getElem?_toArray, List.getElem?_cons_succ, List.getElem?_cons_zero] <;> rfl) (by kernel_rfl) (by kernel_rfl) (by kernel_rfl) (by exact fun _ _ _ h => h) (Or.inl ⟨by rfl, ?_⟩) hHeld ?_
      rotate_left
      · intro w hSw; (try dsimp only at hSw); go_simp; (try with_reducible rfl)
      (try simp only [Act.put, List.setIfInBounds_toArray, List.set_cons_zero, List.set_cons_succ])
      refine wpAnyH_done (by kernel_rfl) ?_ _
      go_wp2_with fail
      go_ret
      exact ⟨rfl, HB.out _ HB1.out⟩

set_option maxRecDepth 100000 in
set_option maxHeartbeats 4000000 in
theorem indexFunc_any {w : World} {bm bt ba g : Nat} {M T : Int} {a : Ad} (h : Caught w bm bt ba g M T a) (ha : a.Ok) {A : Option Addr} {ps : List Pf} (hP : PfsIn w A ps) (cap : Nat) (hroom : ps.length ≤ cap) :
    Calls Try.prog 27 #[.slice A ps.length cap, .func (.func 17) #[] #[.pointer (some ⟨bm, 0, none⟩), .pointer (some ⟨bt, 0, none⟩), .pointer (some ⟨ba, 0, none⟩)]] w fun e w' => ∃ r : Int, e = .returned (.int .i64 r) ∧ decide (0 ≤ r) = ps.any (isOne M T a.num) ∧ Below w.heap.size w w' := by
  have hlen := hP.len
  obtain ⟨n, hn⟩ : ∃ n, ps.length = n := ⟨_, rfl⟩
  have HN := Lib.hid hn
  have HP := Lib.hid hP
  have HC := Lib.hid (And.intro h ha)
  rw [hn] at hlen hroom ⊢
  clear hn hP h ha
  go_enter Try.func27, Try.ntmps27
  go_wp2_with fail
  go_loopg [8] n (fun k c wr => ∃ i : Nat, c = .int .i64 (i : Int) ∧ i + k = n ∧ Hid (Below w.heap.size w wr ∧ (ps.take i).any (isOne M T a.num) = false))
  case atStart => exact ⟨0, rfl, by omega, Lib.hid ⟨Below.refl _ _, rfl⟩⟩
  case round =>
    obtain ⟨i, rfl, hik, HI⟩ := hrel
    cases gk with
    | zero =>
      obtain rfl : i = n := by omega
      have HE : Hid (ps.any (isOne M T a.num) = false) := Lib.hid (by
        have := HI.out.2
        rwa [List.take_of_length_le (by have := HN.out; omega)] at this)
      have HB := Lib.hid HI.out.1
      clear HI HP HC HN
      go_wp2_with fail
      go_ret
      exact ⟨-1, rfl, by rw [HE.out]; rfl, HB.out⟩
    | succ k =>
      have hi : i < n := by omega
      have i1 : (i : Int) < (n : Int) := by omega
      obtain ⟨b, off, p, rfl, hp, hat, hok, hbl⟩ := (HP.out.below HI.out.1).next (i := i) (by have := HN.out; omega)
      obtain ⟨q0, q1, q2, q3, q4, q5⟩ := hat
      have HD := Lib.hid (one_any (HC.out.1.below HI.out.1) HC.out.2 hok)
      have HA : Hid ((ps.take (i + 1)).any (isOne M T a.num) = isOne M T a.num p) := Lib.hid (by
        rw [take_snoc hp, List.any_append, HI.out.2]
        simp)
      have HY : Hid (isOne M T a.num p = true → ps.any (isOne M T a.num) = true) := Lib.hid (fun h => List.any_eq_true.2 ⟨p, List.mem_of_getElem? hp, h⟩)
      have HB := Lib.hid HI.out.1
      clear hp hok hbl HI HP HC
      generalize isOne M T a.num p = J at *
      go_wp2_with fail
      refine HD.out.mono ?_
      rintro e w2 ⟨rfl, hb2⟩
      have HB2 := Lib.hid (HB.out.trans (hb2.mono HB.out.size))
      clear hb2 q0 q1 q2 q3 q4 q5 HD HB
      cases J with
      | true =>
        have HZ := Lib.hid (HY.out rfl)
        go_wp2_with fail
        go_ret
        exact ⟨(i : Int), rfl, by rw [HZ.out]; exact decide_eq_true (by omega), HB2.out⟩
      | false =>
        go_wp2_with fail
        go_roundg k
        case measure => omega
        case rel => exact ⟨i + 1, by go_num, by omega, Lib.hid ⟨HB2.out, HA.out⟩⟩
set_option maxRecDepth 100000 in
set_option maxHeartbeats 4000000 in
theorem containsFunc_any {w : World} {bm bt ba g : Nat} {M T : Int} {a : Ad} (h : Caught w bm bt ba g M T a) (ha : a.Ok) {A : Option Addr} {ps : List Pf} (hP : PfsIn w A ps) (cap : Nat) (hroom : ps.length ≤ cap) :
    Calls Try.prog 16 #[.slice A ps.length cap, .func (.func 17) #[] #[.pointer (some ⟨bm, 0, none⟩), .pointer (some ⟨bt, 0, none⟩), .pointer (some ⟨ba, 0, none⟩)]] w fun e w' => e = .returned (.bool (ps.any (isOne M T a.num))) ∧ Below w.heap.size w w' := by
  have H := Lib.hid (indexFunc_any h ha hP cap hroom)
  clear h ha hP hroom
  generalize ps.length = n at *
  go_enter Try.func16, Try.ntmps16
  go_wp2_with fail
  refine H.out.mono ?_
  rintro e w1 ⟨r, rfl, hr, hb⟩
  have HR := Lib.hid (And.intro hr hb)
  clear hr hb
  go_wp2_with fail
  go_ret
  exact ⟨ret_bool HR.out.1, HR.out.2⟩

/-! ### the longest -/
theorem look_max (x : Nat) (ps : List Pf) (p : Pf) : (lookB x (ps ++ [p])).1 = if inB x p = true then max (lookB x ps).1 p.bits else (lookB x ps).1 := by
  rw [look_snoc]
  unfold pick
  by_cases c : within x p
  · rw [if_pos (inB_true c)]
    by_cases d : (lookB x ps).1 < p.bits
    · rw [if_pos ⟨d, c⟩]
      show p.bits = _
      omega
    · rw [if_neg (fun h => d h.1)]
      omega
  · rw [if_neg (fun h => c h.2), if_neg (by rw [inB_false c]; decide)]
theorem longest_one {x : Nat} {ps : List Pf} (h : lookIs x ps = true) : ps.any (isOne (lookB x ps).1 (lookTo x ps) x) = true := by
  unfold lookIs at h
  have h0 := of_decide_eq_true h
  rcases look_best x ps with ⟨e, _⟩ | ⟨p, hp, _, hw, e, _⟩
  · rw [e] at h0
    exact absurd h0 (by decide)
  · refine List.any_eq_true.2 ⟨p, hp, ?_⟩
    unfold isOne lookTo
    rw [e, inB_true hw]
    simp
theorem longest_none {x : Nat} {ps : List Pf} (h : lookIs x ps = false) : lookTo x ps = 0 := by
  unfold lookIs at h
  have h0 := of_decide_eq_false h
  unfold lookTo
  rcases look_best x ps with ⟨e, _⟩ | ⟨p, hp, _, hw, e, _⟩
  · rw [e]
  · rw [e] at h0
    exact absurd hw.1.1 h0

set_option maxRecDepth 100000 in
set_option maxHeartbeats 8000000 in
theorem longest_law {w : World} {A : Option Addr} {ps : List Pf} {a : Ad} {len cap : Nat} (hC : CameP w A cap ps) (hl : ps.length = len) (ha : a.Ok) :
    Calls Try.prog 4 #[.slice A len cap, .agg #[.int .u8 a.a0, .int .u8 a.a1, .int .u8 a.a2, .int .u8 a.a3]] w fun e w' => e = .returned (.bool true) ∧ Below w.heap.size w w' := by
  subst hl
  have H1 := Lib.hid (fun w => alive6_any w)
  have hsz := hC.size
  have hroom := hC.room
  have b1 : (w.alloc (.cells #[.int .u8 a.a0, .int .u8 a.a1, .int .u8 a.a2, .int .u8 a.a3] 24)).heap[w.heap.size]? = some (.cells #[.int .u8 a.a0, .int .u8 a.a1, .int .u8 a.a2, .int .u8 a.a3] 24 (0, 0)) := heap_alloc_new w _
  have b0 : Below w.heap.size w (w.alloc (.cells #[.int .u8 a.a0, .int .u8 a.a1, .int .u8 a.a2, .int .u8 a.a3] 24)) := (Below.refl _ w).alloc (Nat.le_refl _) _
  have HS0 : Hid (∀ W, Below (w.alloc (.cells #[.int .u8 a.a0, .int .u8 a.a1, .int .u8 a.a2, .int .u8 a.a3] 24)).heap.size (w.alloc (.cells #[.int .u8 a.a0, .int .u8 a.a1, .int .u8 a.a2, .int .u8 a.a3] 24)) W → (W.cell? ⟨w.heap.size, 0, none⟩ = some (.int .u8 a.a0) ∧ W.cell? ⟨w.heap.size, 1, none⟩ = some (.int .u8 a.a1) ∧ W.cell? ⟨w.heap.size, 2, none⟩ = some (.int .u8 a.a2) ∧ W.cell? ⟨w.heap.size, 3, none⟩ = some (.int .u8 a.a3)) ∧ Below w.heap.size w W) := Lib.hid (fun W hW => by
    have e2 := (hW.block _ (by simp)).trans b1
    exact ⟨⟨cell_of_row _ _ 0 _ _ _ e2, cell_of_row _ _ 1 _ _ _ e2, cell_of_row _ _ 2 _ _ _ e2, cell_of_row _ _ 3 _ _ _ e2⟩, b0.trans (hW.mono b0.size)⟩)
  have HWI : Hid (∀ p ∈ ps, ∀ w, Calls Try.prog 12 #[.agg #[.int .u8 a.a0, .int .u8 a.a1, .int .u8 a.a2, .int .u8 a.a3], .agg #[.int .u8 p.ad.a0, .int .u8 p.ad.a1, .int .u8 p.ad.a2, .int .u8 p.ad.a3, .int .i64 p.bits, .int .i64 p.led]] w fun e w' => e = .returned (.bool (inB a.num p)) ∧ Below w.heap.size w w') := Lib.hid (fun p hp w => within_any a p ha (hC.lies.ok p hp) w)
  have HC := Lib.hid hC
  have HOK := Lib.hid ha
  clear hC ha b0 b1
  obtain ⟨n, hn⟩ : ∃ n, ps.length = n := ⟨_, rfl⟩
  have HN := Lib.hid hn
  rw [hn] at hsz hroom ⊢
  clear hn
  go_enter Try.func4, Try.ntmps4
  go_wp2_with fail
  generalize w.alloc (.cells #[.int .u8 a.a0, .int .u8 a.a1, .int .u8 a.a2, .int .u8 a.a3] 24) = m0 at *
  refine (H1.out _).mono ?_
  rintro e w1 ⟨rfl, hb1⟩
  have HB1 := Lib.hid hb1
  obtain ⟨⟨z0, z1, z2, z3⟩, hw1⟩ := HS0.out w1 hb1
  have hnew : (w1.alloc (.cells #[.int .u8 a.a0, .int .u8 a.a1, .int .u8 a.a2, .int .u8 a.a3] 24)).heap[w1.heap.size]? = some (.cells a.cells.toArray 24 (0, 0)) := heap_alloc_new w1 _
  have hb2 : Below w1.heap.size w1 (w1.alloc (.cells #[.int .u8 a.a0, .int .u8 a.a1, .int .u8 a.a2, .int .u8 a.a3] 24)) := (Below.refl _ _).alloc (Nat.le_refl _) _
  have hFd := find_any (HC.out.lies.below (hw1.trans (hb2.mono hw1.size))) HC.out.room (ads_one hnew HOK.out) (cad := 1) (by simp)
  rw [HN.out] at hFd
  have H2 : Hid (Calls Try.prog 9 #[.slice A n cap, .slice (some ⟨w1.heap.size, 0, none⟩) 1 1] (w1.alloc (.cells #[.int .u8 a.a0, .int .u8 a.a1, .int .u8 a.a2, .int .u8 a.a3] 24)) (Found (w1.alloc (.cells #[.int .u8 a.a0, .int .u8 a.a1, .int .u8 a.a2, .int .u8 a.a3] 24)) ps [a])) := Lib.hid hFd
  have HB2 := Lib.hid hb2
  clear hFd hb2 hnew hb1 hw1
  go_wp2_with fail
  refine H2.out.mono ?_
  intro e m hF
  obtain ⟨U1, U2, U3, rfl, hbf, hT⟩ := found1 hF
  have HBM : Hid (Below m0.heap.size m0 m) := Lib.hid (HB1.out.trans ((HB2.out.trans (hbf.mono HB2.out.size)).mono HB1.out.size))
  have HTM := Lib.hid hT
  clear hF hbf hT HB1 HB2 H2 H1 z0 z1 z2 z3
  rcases HTM.out with ⟨h0, rfl, rfl, rfl⟩ | ⟨h0, g1, k1, rfl, rfl, rfl, c1, c2⟩
  · have h0' : (wrong ps != 0) = true := by simpa using h0
    clear h0 HTM
    generalize wrong ps = E at *
    go_wp2_with fail
    go_ret
    refine ⟨rfl, (HS0.out _ ?_).2⟩
    exact HBM.out.alloc HBM.out.size _
  · clear HTM h0
    have HG : Hid (m.cell? ⟨g1, 0, none⟩ = some (.int .i64 (lookTo a.num ps)) ∧ m.cell? ⟨k1, 0, none⟩ = some (.bool (lookIs a.num ps))) := Lib.hid ⟨c1, c2⟩
    clear c1 c2
    have hM0 : Below m.heap.size m ((m.alloc (.cells #[.slice (some ⟨g1, 0, none⟩) 1 1] 27)).alloc (.cells #[.int .i64 (-1)] 3)) := ((Below.refl _ m).alloc (Nat.le_refl _) _).alloc (by simp) _
    have hs1 : (m.alloc (.cells #[.slice (some ⟨g1, 0, none⟩) 1 1] 27)).heap.size = m.heap.size + 1 := by simp
    have hM1 : ((m.alloc (.cells #[.slice (some ⟨g1, 0, none⟩) 1 1] 27)).alloc (.cells #[.int .i64 (-1)] 3)).heap[m.heap.size]? = some (.cells #[.slice (some ⟨g1, 0, none⟩) 1 1] 27 (0, 0)) := by
      rw [alloc_at _ _ _ (by omega)]
      exact heap_alloc_new m _
    have hM2 : ((m.alloc (.cells #[.slice (some ⟨g1, 0, none⟩) 1 1] 27)).alloc (.cells #[.int .i64 (-1)] 3)).heap[m.heap.size + 1]? = some (.cells #[.int .i64 (-1)] 3 (0, 0)) := by
      rw [← hs1]
      exact heap_alloc_new _ _
    have hMs : m.heap.size + 1 ≤ ((m.alloc (.cells #[.slice (some ⟨g1, 0, none⟩) 1 1] 27)).alloc (.cells #[.int .i64 (-1)] 3)).heap.size := by simp
    have HF : Hid (∀ W, Below (m.heap.size + 1) ((m.alloc (.cells #[.slice (some ⟨g1, 0, none⟩) 1 1] 27)).alloc (.cells #[.int .i64 (-1)] 3)) W → Below m.heap.size m W ∧ W.cell? ⟨m.heap.size, 0, none⟩ = some (.slice (some ⟨g1, 0, none⟩) 1 1) ∧ W.cell? ⟨g1, 0, none⟩ = some (.int .i64 (lookTo a.num ps)) ∧ W.cell? ⟨k1, 0, none⟩ = some (.bool (lookIs a.num ps)) ∧ (W.cell? ⟨w.heap.size, 0, none⟩ = some (.int .u8 a.a0) ∧ W.cell? ⟨w.heap.size, 1, none⟩ = some (.int .u8 a.a1) ∧ W.cell? ⟨w.heap.size, 2, none⟩ = some (.int .u8 a.a2) ∧ W.cell? ⟨w.heap.size, 3, none⟩ = some (.int .u8 a.a3)) ∧ Below w.heap.size w W) := Lib.hid (fun W hW => by
      have hmW := hM0.trans (hW.mono (by omega))
      have h0 := HS0.out W (HBM.out.trans (hmW.mono HBM.out.size))
      exact ⟨hmW, cell_of_row _ _ 0 _ _ _ ((hW.block _ (by omega)).trans hM1), (hmW.cell (p := ⟨g1, 0, none⟩) (World.block_lt_of_cell? _ _ HG.out.1)).trans HG.out.1, (hmW.cell (p := ⟨k1, 0, none⟩) (World.block_lt_of_cell? _ _ HG.out.2)).trans HG.out.2, h0⟩)
    have HM := Lib.hid (And.intro hM2 hMs)
    have hlook : lookIs a.num ps = decide (0 ≤ (lookB a.num ps).1) := rfl
    have HLK := Lib.hid hlook
    clear hM0 hs1 hM1 hM2 hMs HS0 HBM HG hlook
    go_upto_region 7 with fail
    generalize ((m.alloc (.cells #[.slice (some ⟨g1, 0, none⟩) 1 1] 27)).alloc (.cells #[.int .i64 (-1)] 3)) = M1 at *
    go_wp2_with fail
    go_loopg [46] n (fun k c wr => ∃ i : Nat, c = .int .i64 (i : Int) ∧ i + k = n ∧ Hid (Below (m.heap.size + 1) M1 wr ∧ wr.heap[m.heap.size + 1]? = some (.cells #[.int .i64 (lookB a.num (ps.take i)).1] 3 (0, 0))))
    case atStart => exact ⟨0, rfl, by omega, Lib.hid ⟨Below.refl _ _, HM.out.1⟩⟩
    case round =>
      obtain ⟨i, rfl, hik, HI⟩ := hrel
      obtain ⟨f1, f2, f3, f4, ⟨z0, z1, z2, z3⟩, f6⟩ := HF.out wr HI.out.1
      cases gk with
      | zero =>
        obtain rfl : i = n := by omega
        have hI2 := HI.out.2
        rw [List.take_of_length_le (by have := HN.out; omega)] at hI2
        have hm : wr.cell? ⟨m.heap.size + 1, 0, none⟩ = some (.int .i64 (lookB a.num ps).1) := cell_of_row _ _ 0 _ _ _ hI2
        have hcf := containsFunc_any (w := wr) ⟨hm, f2, f3, ⟨z0, z1, z2, z3⟩⟩ HOK.out (HC.out.lies.below f6) cap HC.out.room
        rw [HN.out] at hcf
        have H9 := Lib.hid hcf
        have HX : Hid (wr.cell? ⟨m.heap.size + 1, 0, none⟩ = some (.int .i64 (lookB a.num ps).1) ∧ wr.cell? ⟨k1, 0, none⟩ = some (.bool (lookIs a.num ps)) ∧ wr.cell? ⟨m.heap.size, 0, none⟩ = some (.slice (some ⟨g1, 0, none⟩) 1 1) ∧ wr.cell? ⟨g1, 0, none⟩ = some (.int .i64 (lookTo a.num ps)) ∧ Below w.heap.size w wr) := Lib.hid ⟨hm, f4, f2, f3, f6⟩
        have HY1 : Hid (lookIs a.num ps = true → ps.any (isOne (lookB a.num ps).1 (lookTo a.num ps) a.num) = true) := Lib.hid (fun h => longest_one h)
        have HY0 : Hid (lookIs a.num ps = false → lookTo a.num ps = 0) := Lib.hid (fun h => longest_none h)
        clear hcf hm hI2 HI f1 f2 f3 f4 z0 z1 z2 z3 f6 HC HOK HWI HF HM HN
        generalize ps.any (isOne (lookB a.num ps).1 (lookTo a.num ps) a.num) = J at *
        generalize lookTo a.num ps = T at *
        generalize (lookB a.num ps).1 = V at *
        go_wp2_with fail
        refine H9.out.mono ?_
        rintro e w9 ⟨rfl, hb9⟩
        obtain ⟨x1, x2, x3, x4, x5⟩ := HX.out
        replace x1 := (hb9.cell (p := ⟨m.heap.size + 1, 0, none⟩) (World.block_lt_of_cell? _ _ x1)).trans x1
        replace x2 := (hb9.cell (p := ⟨k1, 0, none⟩) (World.block_lt_of_cell? _ _ x2)).trans x2
        replace x3 := (hb9.cell (p := ⟨m.heap.size, 0, none⟩) (World.block_lt_of_cell? _ _ x3)).trans x3
        replace x4 := (hb9.cell (p := ⟨g1, 0, none⟩) (World.block_lt_of_cell? _ _ x4)).trans x4
        have HB9 := Lib.hid (x5.trans (hb9.mono x5.size))
        clear x5 hb9 H9 HX
        have hV := HLK.out
        clear HLK
        generalize lookIs a.num ps = I at *
        cases I with
        | true =>
          have hJ := HY1.out rfl
          subst hJ
          have hV0 : 0 ≤ V := of_decide_eq_true hV.symm
          clear hV HY0 HY1
          go_wp2_with fail
          go_quiet (fail)
          go_wp2_with fail
          go_ret
          exact ⟨rfl, below_drewN HB9.out _⟩
        | false =>
          have hT := HY0.out rfl
          subst hT
          have hV0 : ¬ 0 ≤ V := of_decide_eq_false hV.symm
          have HV0 := Lib.hid hV0
          clear hV HY0 HY1
          go_wp2_with fail
          go_quiet (fail)
          go_wp2_with fail
          go_ret
          exact ⟨ret_bool (by rw [decide_eq_false (Int.not_le.2 HV0.out)]; rfl), below_drewN HB9.out _⟩
      | succ k =>
        have hi : i < n := by omega
        have i1 : (i : Int) < (n : Int) := by omega
        obtain ⟨b, off, p, rfl, hp, hat, hok, hbl⟩ := (HC.out.lies.below f6).next (i := i) (by have := HN.out; omega)
        obtain ⟨q0, q1, q2, q3, q4, q5⟩ := hat
        have HW := Lib.hid (HWI.out p (List.mem_of_getElem? hp))
        have HLM : Hid ((lookB a.num (ps.take (i + 1))).1 = if inB a.num p = true then max (lookB a.num (ps.take i)).1 p.bits else (lookB a.num (ps.take i)).1) := Lib.hid (by rw [take_snoc hp]; exact look_max _ _ _)
        have hw3 : Below wr.heap.size wr (wr.alloc (.cells #[.int .u8 p.ad.a0, .int .u8 p.ad.a1, .int .u8 p.ad.a2, .int .u8 p.ad.a3, .int .i64 p.bits, .int .i64 p.led] 26)) := (Below.refl _ _).alloc (Nat.le_refl _) _
        have hp3 : (wr.alloc (.cells #[.int .u8 p.ad.a0, .int .u8 p.ad.a1, .int .u8 p.ad.a2, .int .u8 p.ad.a3, .int .i64 p.bits, .int .i64 p.led] 26)).heap[wr.heap.size]? = some (.cells #[.int .u8 p.ad.a0, .int .u8 p.ad.a1, .int .u8 p.ad.a2, .int .u8 p.ad.a3, .int .i64 p.bits, .int .i64 p.led] 26 (0, 0)) := heap_alloc_new wr _
        have HR := Lib.hid (And.intro hw3 hp3)
        have HBW : Hid (Below (m.heap.size + 1) M1 wr ∧ m.heap.size + 1 < wr.heap.size) := Lib.hid ⟨HI.out.1, (Array.getElem?_eq_some_iff.1 HI.out.2).1⟩
        have HCM := Lib.hid HI.out.2
        clear hw3 hp3 HI f1 f2 f3 f4 f6 hp hok hbl HC HOK HWI HF
        obtain ⟨V2, hV2⟩ : ∃ V2, (lookB a.num (ps.take (i + 1))).1 = V2 := ⟨_, rfl⟩
        have HV2 := Lib.hid hV2
        rw [hV2] at HLM
        clear hV2
        generalize (lookB a.num (ps.take i)).1 = V at *
        generalize inB a.num p = IB at *
        have HZ3 : Hid (((wr.alloc (.cells #[.int .u8 p.ad.a0, .int .u8 p.ad.a1, .int .u8 p.ad.a2, .int .u8 p.ad.a3, .int .i64 p.bits, .int .i64 p.led] 26)).cell? ⟨w.heap.size, 0, none⟩ = some (.int .u8 a.a0) ∧ (wr.alloc (.cells #[.int .u8 p.ad.a0, .int .u8 p.ad.a1, .int .u8 p.ad.a2, .int .u8 p.ad.a3, .int .i64 p.bits, .int .i64 p.led] 26)).cell? ⟨w.heap.size, 1, none⟩ = some (.int .u8 a.a1) ∧ (wr.alloc (.cells #[.int .u8 p.ad.a0, .int .u8 p.ad.a1, .int .u8 p.ad.a2, .int .u8 p.ad.a3, .int .i64 p.bits, .int .i64 p.led] 26)).cell? ⟨w.heap.size, 2, none⟩ = some (.int .u8 a.a2) ∧ (wr.alloc (.cells #[.int .u8 p.ad.a0, .int .u8 p.ad.a1, .int .u8 p.ad.a2, .int .u8 p.ad.a3, .int .i64 p.bits, .int .i64 p.led] 26)).cell? ⟨w.heap.size, 3, none⟩ = some (.int .u8 a.a3)) ∧ ((wr.alloc (.cells #[.int .u8 p.ad.a0, .int .u8 p.ad.a1, .int .u8 p.ad.a2, .int .u8 p.ad.a3, .int .i64 p.bits, .int .i64 p.led] 26)).cell? ⟨wr.heap.size, 0, none⟩ = some (.int .u8 p.ad.a0) ∧ (wr.alloc (.cells #[.int .u8 p.ad.a0, .int .u8 p.ad.a1, .int .u8 p.ad.a2, .int .u8 p.ad.a3, .int .i64 p.bits, .int .i64 p.led] 26)).cell? ⟨wr.heap.size, 1, none⟩ = some (.int .u8 p.ad.a1) ∧ (wr.alloc (.cells #[.int .u8 p.ad.a0, .int .u8 p.ad.a1, .int .u8 p.ad.a2, .int .u8 p.ad.a3, .int .i64 p.bits, .int .i64 p.led] 26)).cell? ⟨wr.heap.size, 2, none⟩ = some (.int .u8 p.ad.a2) ∧ (wr.alloc (.cells #[.int .u8 p.ad.a0, .int .u8 p.ad.a1, .int .u8 p.ad.a2, .int .u8 p.ad.a3, .int .i64 p.bits, .int .i64 p.led] 26)).cell? ⟨wr.heap.size, 3, none⟩ = some (.int .u8 p.ad.a3) ∧ (wr.alloc (.cells #[.int .u8 p.ad.a0, .int .u8 p.ad.a1, .int .u8 p.ad.a2, .int .u8 p.ad.a3, .int .i64 p.bits, .int .i64 p.led] 26)).cell? ⟨wr.heap.size, 4, none⟩ = some (.int .i64 p.bits) ∧ (wr.alloc (.cells #[.int .u8 p.ad.a0, .int .u8 p.ad.a1, .int .u8 p.ad.a2, .int .u8 p.ad.a3, .int .i64 p.bits, .int .i64 p.led] 26)).cell? ⟨wr.heap.size, 5, none⟩ = some (.int .i64 p.led))) := Lib.hid (by
          have key : ∀ i v, wr.cell? ⟨w.heap.size, i, none⟩ = some v → (wr.alloc (.cells #[.int .u8 p.ad.a0, .int .u8 p.ad.a1, .int .u8 p.ad.a2, .int .u8 p.ad.a3, .int .i64 p.bits, .int .i64 p.led] 26)).cell? ⟨w.heap.size, i, none⟩ = some v := fun i v hv => (HR.out.1.cell (p := ⟨w.heap.size, i, none⟩) (World.block_lt_of_cell? _ _ hv)).trans hv
          have e := HR.out.2
          exact ⟨⟨key _ _ z0, key _ _ z1, key _ _ z2, key _ _ z3⟩, cell_of_row _ _ 0 _ _ _ e, cell_of_row _ _ 1 _ _ _ e, cell_of_row _ _ 2 _ _ _ e, cell_of_row _ _ 3 _ _ _ e, cell_of_row _ _ 4 _ _ _ e, cell_of_row _ _ 5 _ _ _ e⟩)
        have hs3 : wr.heap.size < (wr.alloc (.cells #[.int .u8 p.ad.a0, .int .u8 p.ad.a1, .int .u8 p.ad.a2, .int .u8 p.ad.a3, .int .i64 p.bits, .int .i64 p.led] 26)).heap.size := by simp
        go_upto_region 10 with fail
        clear z0 z1 z2 z3 q0 q1 q2 q3 q4 q5
        generalize wr.alloc (.cells #[.int .u8 p.ad.a0, .int .u8 p.ad.a1, .int .u8 p.ad.a2, .int .u8 p.ad.a3, .int .i64 p.bits, .int .i64 p.led] 26) = w3 at *
        obtain ⟨⟨z0, z1, z2, z3⟩, q0, q1, q2, q3, q4, q5⟩ := HZ3.out
        go_wp2_with fail
        refine (HW.out _).mono ?_
        rintro e w4 ⟨rfl, hb4⟩
        have hb34 := HR.out.1.trans (hb4.mono HR.out.1.size)
        have c4 : w4.cell? ⟨wr.heap.size, 4, none⟩ = some (.int .i64 p.bits) := cell_of_row _ _ 4 _ _ _ ((hb4.block _ hs3).trans HR.out.2)
        have hm4 := (hb34.block (m.heap.size + 1) HBW.out.2).trans HCM.out
        have cm : w4.cell? ⟨m.heap.size + 1, 0, none⟩ = some (.int .i64 V) := cell_of_row _ _ 0 _ _ _ hm4
        have fm : w4.frozen? ⟨m.heap.size + 1, 0, none⟩ = false := frozen_of_row _ _ 0 _ _ hm4
        have HB4 : Hid (Below (m.heap.size + 1) M1 w4) := Lib.hid (HBW.out.1.trans (hb34.mono (by have := HBW.out.2; omega)))
        have HM4 := Lib.hid hm4
        clear hb34 hb4 hm4 HR HBW HCM HZ3 hs3 z0 z1 z2 z3 q0 q1 q2 q3 q4 q5
        cases IB with
        | false =>
          have hv : V2 = V := HLM.out.trans (if_neg (by decide))
          subst hv
          go_wp2_with fail
          go_roundg k
          case measure => omega
          case rel => exact ⟨i + 1, by go_num, by omega, Lib.hid ⟨HB4.out, by rw [HV2.out]; exact HM4.out⟩⟩
        | true =>
          have hv : V2 = max V p.bits := HLM.out.trans (if_pos rfl)
          have HN5 : Hid (Below (m.heap.size + 1) M1 (w4.setCell ⟨m.heap.size + 1, 0, none⟩ (.int .i64 V2)) ∧ (w4.setCell ⟨m.heap.size + 1, 0, none⟩ (.int .i64 V2)).heap[m.heap.size + 1]? = some (.cells #[.int .i64 V2] 3 (0, 0))) := Lib.hid ⟨HB4.out.setCell (p := ⟨m.heap.size + 1, 0, none⟩) (Nat.le_refl _) _, heap_setCell_same w4 _ 0 _ _ _ HM4.out⟩
          by_cases cV : V < p.bits
          · have e2 : V2 = p.bits := by omega
            subst e2
            clear hv HLM
            go_wp2_with fail
            go_roundg k
            case measure => omega
            case rel => exact ⟨i + 1, by go_num, by omega, by rw [HV2.out]; exact HN5⟩
          · have e2 : V2 = V := by omega
            subst e2
            clear hv HLM
            go_wp2_with fail
            go_roundg k
            case measure => omega
            case rel => exact ⟨i + 1, by go_num, by omega, by rw [HV2.out]; exact HN5⟩
end Go.Proofs.Ytcadjgmglaimdaa
