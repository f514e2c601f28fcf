/- The two closures of the reference's EWrite. -/
import Derived.Test.YtmigfemkbdehbaaHdE1
import Derived.Test.YtmigfemkbdehbaaHd5
import Derived.Deep.LoopGhost
namespace Go.Proofs.Ytmigfemkbdehbaa
open Go.RowKit Go.Maps

/-- Bytes that were laid into a row of their own. -/
def Laid (w : World) (xs : List Int) (v : Value) (w' : World) : Prop := ∃ x, v = .slice (some ⟨x, 0, none⟩) xs.length xs.length ∧ w.heap.size ≤ x ∧ Lies w' (some ⟨x, 0, none⟩) xs ∧ Below w.heap.size w w'
theorem laid_lit (w : World) {xs : List Int} (hb : Bytes xs) (hl : xs.length ≤ 281474976710656) : Laid w xs (.slice (some ⟨w.heap.size, 0, none⟩) xs.length xs.length) (w.alloc (.cells (u8s xs).toArray 5)) :=
  ⟨_, rfl, Nat.le_refl _, lies_lit w xs hb hl, (Below.refl _ _).alloc (Nat.le_refl _) _⟩
theorem bytes_word {x : Int} (h : Half x) : Bytes [x / 256, x % 256] := by
  obtain ⟨a, b⟩ := h
  exact bytes_cons ⟨by omega, by omega⟩ (bytes_cons ⟨by omega, by omega⟩ bytes_nil)
set_option maxHeartbeats 1000000 in
theorem two_any {x : Int} (hx : Half x) (w : World) :
    Calls Try.prog 18 #[.int .i64 x] w fun e w' => ∃ v, e = .returned v ∧ Laid w [x / 256, x % 256] v w' := by
  have HL : Hid (Laid w [x / 256, x % 256] (.slice (some ⟨w.heap.size, 0, none⟩) 2 2) (w.alloc (.cells #[.int .u8 (x / 256), .int .u8 (x % 256)] 5))) := Lib.hid (laid_lit w (bytes_word hx) (by simp))
  obtain ⟨x0, x1⟩ := hx
  have e1 : IntKind.u8.wrap (x / 256) = x / 256 := by rw [IntKind.wrap_u8]; omega
  have e2 : IntKind.u8.wrap (x % 256) = x % 256 := by rw [IntKind.wrap_u8]; omega
  go_enter Try.func18, Try.ntmps18
  go_wp2
  go_ret
  exact ⟨_, rfl, HL.out⟩

/-- A row of slices of bytes. -/
def Rows6 (w : World) (g : Nat) (ps : List (List Int)) : Prop := ∀ i p, ps[i]? = some p → ∃ a : Addr, w.cell? ⟨g, i, none⟩ = some (.slice (some a) p.length p.length) ∧ Lies w (some a) p
theorem Rows6.below {B g : Nat} {w w' : World} {ps : List (List Int)} (h : Rows6 w g ps) (hb : Below w.heap.size w w') (hg : g < w.heap.size) (_hB : B = B) : Rows6 w' g ps := fun i p hp => by
  obtain ⟨a, h1, h2⟩ := h i p hp
  exact ⟨a, (hb.cell (p := ⟨g, i, none⟩) hg).trans h1, h2.below hb⟩
theorem rows6_made {w : World} {a1 a2 a3 a4 a5 a6 : Addr} {p1 p2 p3 p4 p5 p6 : List Int} (h1 : Lies w (some a1) p1) (h2 : Lies w (some a2) p2) (h3 : Lies w (some a3) p3) (h4 : Lies w (some a4) p4) (h5 : Lies w (some a5) p5) (h6 : Lies w (some a6) p6) :
    Rows6 (w.alloc (.cells #[.slice (some a1) p1.length p1.length, .slice (some a2) p2.length p2.length, .slice (some a3) p3.length p3.length, .slice (some a4) p4.length p4.length, .slice (some a5) p5.length p5.length, .slice (some a6) p6.length p6.length] 25)) w.heap.size [p1, p2, p3, p4, p5, p6] := by
  have hb : Below w.heap.size w (w.alloc (.cells #[.slice (some a1) p1.length p1.length, .slice (some a2) p2.length p2.length, .slice (some a3) p3.length p3.length, .slice (some a4) p4.length p4.length, .slice (some a5) p5.length p5.length, .slice (some a6) p6.length p6.length] 25)) := (Below.refl _ _).alloc (Nat.le_refl _) _
  intro i p hp
  rw [cell_of_row _ w.heap.size _ _ _ _ (heap_alloc_new w _)]
  rcases i with _ | _ | _ | _ | _ | _ | i <;> simp at hp
  · subst hp; exact ⟨a1, rfl, h1.below hb⟩
  · subst hp; exact ⟨a2, rfl, h2.below hb⟩
  · subst hp; exact ⟨a3, rfl, h3.below hb⟩
  · subst hp; exact ⟨a4, rfl, h4.below hb⟩
  · subst hp; exact ⟨a5, rfl, h5.below hb⟩
  · subst hp; exact ⟨a6, rfl, h6.below hb⟩
def Hd.pieces (h : Hd) (c : Int) : List (List Int) := [[69, 4 * h.ma], [h.ln / 256, h.ln % 256], [0, 0, 0, 0, 64, h.pr], [c / 256, c % 256], [h.s0, h.s1, h.s2, h.s3], [h.d0, h.d1, h.d2, h.d3]]
theorem pieces_next (h : Hd) (c : Int) {i : Nat} (hi : i < 6) : ∃ p, (h.pieces c)[i]? = some p ∧ ((h.pieces c).take (i + 1)).flatten = ((h.pieces c).take i).flatten ++ p ∧ ((h.pieces c).take i).flatten.length + p.length ≤ 20 := by
  rcases i with _ | _ | _ | _ | _ | _ | i
  · exact ⟨_, rfl, rfl, by simp [Hd.pieces]⟩
  · exact ⟨_, rfl, rfl, by simp [Hd.pieces]⟩
  · exact ⟨_, rfl, rfl, by simp [Hd.pieces]⟩
  · exact ⟨_, rfl, rfl, by simp [Hd.pieces]⟩
  · exact ⟨_, rfl, rfl, by simp [Hd.pieces]⟩
  · exact ⟨_, rfl, rfl, by simp [Hd.pieces]⟩
  · omega
theorem pieces_all (h : Hd) (c : Int) : (h.pieces c).flatten = h.first c := rfl

set_option maxRecDepth 100000 in
set_option maxHeartbeats 4000000 in
theorem lay_any {h : Hd} (hs : h.Sound) {c : Int} (hc : Half c) {w : World} {q k : Nat} (hq : HeadAt w q h) (hk : w.cell? ⟨k, 0, none⟩ = some (.func (.func 18) #[] #[])) (hkl : k < w.heap.size) :
    Calls Try.prog 19 #[.int .i64 c, .pointer (some ⟨q, 0, none⟩), .pointer (some ⟨k, 0, none⟩)] w fun e w' => ∃ v, e = .returned v ∧ OwnB w.heap.size w' v (h.first c) ∧ Below w.heap.size w w' := by
  have hS : ∀ W, Below w.heap.size w W → (W.cell? ⟨q, 12, none⟩ = some (.int .i64 h.ma) ∧ W.cell? ⟨q, 11, none⟩ = some (.int .i64 h.ln) ∧ W.cell? ⟨q, 8, none⟩ = some (.int .i64 h.pr) ∧ W.cell? ⟨k, 0, none⟩ = some (.func (.func 18) #[] #[])) := fun W hW =>
    ⟨(hq.below hW hq.lt).cell 12, (hq.below hW hq.lt).cell 11, (hq.below hW hq.lt).cell 8, (hW.cell (p := ⟨k, 0, none⟩) hkl).trans hk⟩
  have HS := Lib.hid hS
  have HSD := Lib.hid (fun W (hW : Below w.heap.size w W) => And.intro ((hq.below hW hq.lt).src hs) ((hq.below hW hq.lt).dst hs))
  obtain ⟨m0, m1⟩ := hs.ma
  obtain ⟨l0, l1⟩ := hs.ln
  obtain ⟨p0, p1⟩ := hs.pr
  have H2 := Lib.hid (fun w => two_any (x := h.ln) ⟨by omega, by omega⟩ w)
  have H3 := Lib.hid (fun w => two_any hc w)
  have HB1 : Hid (Bytes [69, 4 * h.ma]) := Lib.hid (bytes_cons ⟨by omega, by omega⟩ (bytes_cons ⟨by omega, by omega⟩ bytes_nil))
  have HB3 : Hid (Bytes [0, 0, 0, 0, 64, h.pr]) := Lib.hid (bytes_cons ⟨by omega, by omega⟩ (bytes_cons ⟨by omega, by omega⟩ (bytes_cons ⟨by omega, by omega⟩ (bytes_cons ⟨by omega, by omega⟩ (bytes_cons ⟨by omega, by omega⟩ (bytes_cons hs.pr bytes_nil))))))
  have HP : Hid (h.first c = (h.pieces c).flatten) := Lib.hid rfl
  have HPC : Hid (h.pieces c = _) := Lib.hid (show h.pieces c = [[69, 4 * h.ma], [h.ln / 256, h.ln % 256], [0, 0, 0, 0, 64, h.pr], [c / 256, c % 256], [h.s0, h.s1, h.s2, h.s3], [h.d0, h.d1, h.d2, h.d3]] from rfl)
  have e0 : IntKind.i64.wrap (4 * h.ma) = 4 * h.ma := wraps_i64 _ (by omega) (by omega)
  have e1 : IntKind.u8.wrap (4 * h.ma) = 4 * h.ma := by rw [IntKind.wrap_u8]; omega
  have e2 : IntKind.u8.wrap h.pr = h.pr := by rw [IntKind.wrap_u8]; omega
  have hz2 := info_u8
  clear hS hs hq hk hkl hc
  go_enter Try.func19, Try.ntmps19
  go_upto_region 2 with fail
  go_cut [28, 29, 30] (fun v28 v29 v30 wx => Hid (v29 = .int .i64 6 ∧ v30 = .int .i64 0 ∧ ∃ g, v28 = .slice (some ⟨g, 0, none⟩) 6 6 ∧ g < wx.heap.size ∧ Rows6 wx g (h.pieces c) ∧ Below w.heap.size w wx))
  case first =>
    refine wp_region_held_drew (S := (fun W => W.cell? ⟨q, 12, none⟩ = some (.int .i64 h.ma) ∧ W.cell? ⟨q, 11, none⟩ = some (.int .i64 h.ln) ∧ W.cell? ⟨q, 8, none⟩ = some (.int .i64 h.pr) ∧ W.cell? ⟨k, 0, none⟩ = some (.func (.func 18) #[] #[]))) (by kernel_rfl) (HS.out _ (Below.refl _ _).drew) (fun hHeld => ?_)
    obtain ⟨W0, hW0⟩ : ∃ W0, W0 = w.drew := ⟨_, rfl⟩
    have HB : Hid (Below w.heap.size w W0) := Lib.hid (by rw [hW0]; exact (Below.refl _ _).drew)
    rw [← hW0] at hHeld ⊢
    clear hW0
    refine wpAnyH_take (i := 0) (v := ?_) (by simp only [List.getElem?_toArray, List.getElem?_cons_zero] <;> rfl) (by kernel_rfl) (by kernel_rfl) (by kernel_rfl) (by exact fun _ _ _ h => h) (Or.inl ⟨by rfl, ?_⟩) hHeld ?_
    rotate_left
    · intro w hSw; (try dsimp only at hSw); go_simp; (try with_reducible rfl)
    (try simp only [Act.put, List.setIfInBounds_toArray, List.set_cons_zero, List.set_cons_succ])
    refine wpAnyH_take (i := 1) (v := ?_) (by simp only [List.getElem?_toArray, List.getElem?_cons_succ, List.getElem?_cons_zero] <;> rfl) (by kernel_rfl) (by kernel_rfl) (by kernel_rfl) (by exact fun _ _ _ h => h) (Or.inl ⟨by rfl, ?_⟩) hHeld ?_
    rotate_left
    · intro w hSw; (try dsimp only at hSw); go_simp; (try with_reducible rfl)
    (try simp only [Act.put, List.setIfInBounds_toArray, List.set_cons_zero, List.set_cons_succ])
    refine wpAnyH_take (i := 2) (v := ?_) (by simp only [List.getElem?_toArray, List.getElem?_cons_succ, List.getElem?_cons_zero] <;> rfl) (by kernel_rfl) (by kernel_rfl) (by kernel_rfl) (by exact fun _ _ _ h => h) (Or.inl ⟨by rfl, ?_⟩) hHeld ?_
    rotate_left
    · intro w hSw; (try dsimp only at hSw); go_simp; (try with_reducible rfl)
    (try simp only [Act.put, List.setIfInBounds_toArray, List.set_cons_zero, List.set_cons_succ])
    refine wpAnyH_take (i := 3) (v := ?_) (by simp only [List.getElem?_toArray, List.getElem?_cons_succ, List.getElem?_cons_zero] <;> rfl) (by kernel_rfl) (by kernel_rfl) (by kernel_rfl) (by exact fun _ _ _ h => h) (Or.inl ⟨by rfl, ?_⟩) hHeld ?_
    rotate_left
    · intro w hSw; (try dsimp only at hSw); go_simp; (try with_reducible rfl)
    (try simp only [Act.put, List.setIfInBounds_toArray, List.set_cons_zero, List.set_cons_succ])
    refine wpAnyH_take (i := 5) (v := ?_) (by simp only [List.getElem?_toArray, List.getElem?_cons_succ, List.getElem?_cons_zero] <;> rfl) (by kernel_rfl) (by kernel_rfl) (by kernel_rfl) (by exact fun _ _ _ h => h) (Or.inl ⟨by rfl, ?_⟩) hHeld ?_
    rotate_left
    · intro w hSw; (try dsimp only at hSw); go_simp; (try with_reducible rfl)
    (try simp only [Act.put, List.setIfInBounds_toArray, List.set_cons_zero, List.set_cons_succ])
    refine wpAnyH_take (i := 6) (v := ?_) (by simp only [List.getElem?_toArray, List.getElem?_cons_succ, List.getElem?_cons_zero] <;> rfl) (by kernel_rfl) (by kernel_rfl) (by kernel_rfl) (by exact fun _ _ _ h => h) (Or.inl ⟨by rfl, ?_⟩) hHeld ?_
    rotate_left
    · intro w hSw; (try dsimp only at hSw); go_simp; (try with_reducible rfl)
    (try simp only [Act.put, List.setIfInBounds_toArray, List.set_cons_zero, List.set_cons_succ])
    refine wpAnyH_take (i := 7) (v := ?_) (by simp only [List.getElem?_toArray, List.getElem?_cons_succ, List.getElem?_cons_zero] <;> rfl) (by kernel_rfl) (by kernel_rfl) (by kernel_rfl) (by exact fun _ _ _ h => h) (Or.inl ⟨by rfl, ?_⟩) hHeld ?_
    rotate_left
    · intro w hSw; (try dsimp only at hSw); go_simp; (try with_reducible rfl)
    (try simp only [Act.put, List.setIfInBounds_toArray, List.set_cons_zero, List.set_cons_succ])
    refine wpAnyH_take (i := 9) (v := ?_) (by simp only [List.getElem?_toArray, List.getElem?_cons_succ, List.getElem?_cons_zero] <;> rfl) (by kernel_rfl) (by kernel_rfl) (by kernel_rfl) (by exact fun _ _ _ h => h) (Or.inl ⟨by rfl, ?_⟩) hHeld ?_
    rotate_left
    · intro w hSw; (try dsimp only at hSw); go_simp; (try with_reducible rfl)
    (try simp only [Act.put, List.setIfInBounds_toArray, List.set_cons_zero, List.set_cons_succ])
    refine wpAnyH_take (i := 10) (v := ?_) (by simp only [List.getElem?_toArray, List.getElem?_cons_succ, List.getElem?_cons_zero] <;> rfl) (by kernel_rfl) (by kernel_rfl) (by kernel_rfl) (by exact fun _ _ _ h => h) (Or.inl ⟨by rfl, ?_⟩) hHeld ?_
    rotate_left
    · intro w hSw; (try dsimp only at hSw); go_simp; (try with_reducible rfl)
    (try simp only [Act.put, List.setIfInBounds_toArray, List.set_cons_zero, List.set_cons_succ])
    refine wpAnyH_take (i := 11) (v := ?_) (by simp only [List.getElem?_toArray, List.getElem?_cons_succ, List.getElem?_cons_zero] <;> rfl) (by kernel_rfl) (by kernel_rfl) (by kernel_rfl) (by exact fun _ _ _ h => h) (Or.inl ⟨by rfl, ?_⟩) hHeld ?_
    rotate_left
    · intro w hSw; (try dsimp only at hSw); go_simp; (try with_reducible rfl)
    (try simp only [Act.put, List.setIfInBounds_toArray, List.set_cons_zero, List.set_cons_succ])
    refine wpAnyH_take (i := 13) (v := ?_) (by simp only [List.getElem?_toArray, List.getElem?_cons_succ, List.getElem?_cons_zero] <;> rfl) (by kernel_rfl) (by kernel_rfl) (by kernel_rfl) (by exact fun _ _ _ h => h) (Or.inl ⟨by rfl, ?_⟩) hHeld ?_
    rotate_left
    · intro w hSw; (try dsimp only at hSw); go_simp; (try with_reducible rfl)
    (try simp only [Act.put, List.setIfInBounds_toArray, List.set_cons_zero, List.set_cons_succ])
    refine wpAnyH_take (i := 14) (v := ?_) (by simp only [List.getElem?_toArray, List.getElem?_cons_succ, List.getElem?_cons_zero] <;> rfl) (by kernel_rfl) (by kernel_rfl) (by kernel_rfl) (by exact fun _ _ _ h => h) (Or.inl ⟨by rfl, ?_⟩) hHeld ?_
    rotate_left
    · intro w hSw; (try dsimp only at hSw); go_simp; (try with_reducible rfl)
    (try simp only [Act.put, List.setIfInBounds_toArray, List.set_cons_zero, List.set_cons_succ])
    refine wpAnyH_take (i := 16) (v := ?_) (by simp only [List.getElem?_toArray, List.getElem?_cons_succ, List.getElem?_cons_zero] <;> rfl) (by kernel_rfl) (by kernel_rfl) (by kernel_rfl) (by exact fun _ _ _ h => h) (Or.inl ⟨by rfl, ?_⟩) hHeld ?_
    rotate_left
    · intro w hSw; (try dsimp only at hSw); go_simp; (try with_reducible rfl)
    (try simp only [Act.put, List.setIfInBounds_toArray, List.set_cons_zero, List.set_cons_succ])
    refine wpAnyH_take (i := 17) (v := ?_) (by simp only [List.getElem?_toArray, List.getElem?_cons_succ, List.getElem?_cons_zero] <;> rfl) (by kernel_rfl) (by kernel_rfl) (by kernel_rfl) (by exact fun _ _ _ h => h) (Or.inl ⟨by rfl, ?_⟩) hHeld ?_
    rotate_left
    · intro w hSw; (try dsimp only at hSw); go_simp; (try with_reducible rfl)
    (try simp only [Act.put, List.setIfInBounds_toArray, List.set_cons_zero, List.set_cons_succ])
    refine wpAnyH_take (i := 18) (v := ?_) (by simp only [List.getElem?_toArray, List.getElem?_cons_succ, List.getElem?_cons_zero] <;> rfl) (by kernel_rfl) (by kernel_rfl) (by kernel_rfl) (by exact fun _ _ _ h => h) (Or.inl ⟨by rfl, ?_⟩) hHeld ?_
    rotate_left
    · intro w hSw; (try dsimp only at hSw); go_simp; (try with_reducible rfl)
    (try simp only [Act.put, List.setIfInBounds_toArray, List.set_cons_zero, List.set_cons_succ])
    refine wpAnyH_take (i := 19) (v := ?_) (by simp only [List.getElem?_toArray, List.getElem?_cons_succ, List.getElem?_cons_zero] <;> rfl) (by kernel_rfl) (by kernel_rfl) (by kernel_rfl) (by exact fun _ _ _ h => h) (Or.inl ⟨by rfl, ?_⟩) hHeld ?_
    rotate_left
    · intro w hSw; (try dsimp only at hSw); go_simp; (try with_reducible rfl)
    (try simp only [Act.put, List.setIfInBounds_toArray, List.set_cons_zero, List.set_cons_succ])
    refine wpAnyH_take (i := 22) (v := ?_) (by simp only [List.getElem?_toArray, List.getElem?_cons_succ, List.getElem?_cons_zero] <;> rfl) (by kernel_rfl) (by kernel_rfl) (by kernel_rfl) (by exact fun _ _ _ h => h) (Or.inl ⟨by rfl, ?_⟩) hHeld ?_
    rotate_left
    · intro w hSw; (try dsimp only at hSw); go_simp; (try with_reducible rfl)
    (try simp only [Act.put, List.setIfInBounds_toArray, List.set_cons_zero, List.set_cons_succ])
    refine wpAnyH_ready (rs := [4, 8, 12]) (by kernel_rfl) (by simp) ?_
    refine AllReadyH.cons (by simp only [List.getElem?_toArray, List.getElem?_cons_succ, List.getElem?_cons_zero] <;> rfl) (fun K hK => ?_) (AllReadyH.cons (by simp only [List.getElem?_toArray, List.getElem?_cons_succ, List.getElem?_cons_zero] <;> rfl) (fun K hK => ?_) (AllReadyH.cons (by simp only [List.getElem?_toArray, List.getElem?_cons_succ, List.getElem?_cons_zero] <;> rfl) (fun K hK => ?_) AllReadyH.nil))
    · skip
      go_simp
      obtain ⟨W1, hWe⟩ : ∃ V, V = W0.alloc (.cells #[.int .u8 69, .int .u8 (4 * h.ma)] 5) := ⟨_, rfl⟩
      obtain ⟨x4, hxe⟩ : ∃ x, x = W0.heap.size := ⟨_, rfl⟩
      have HL4 : Hid (Lies W1 (some ⟨x4, 0, none⟩) [69, 4 * h.ma]) := Lib.hid (by rw [hWe, hxe]; exact lies_lit W0 [69, 4 * h.ma] HB1.out (by simp))
      have hbw : Below W0.heap.size W0 W1 := by rw [hWe]; exact (Below.refl _ _).alloc (Nat.le_refl _) _
      rw [← hWe, ← hxe]
      clear hWe hxe
      replace HB := Lib.hid (HB.out.trans (hbw.mono HB.out.size))
      refine hK.out _ _ ?_ (fun hHeld => ?_)
      · exact HS.out _ HB.out
      clear hK K hbw
      (try simp only [Act.put, List.setIfInBounds_toArray, List.set_cons_zero, List.set_cons_succ])
      refine wpAnyH_ready (rs := [8, 12]) (by kernel_rfl) (by simp) ?_
      refine AllReadyH.cons (by simp only [List.getElem?_toArray, List.getElem?_cons_succ, List.getElem?_cons_zero] <;> rfl) (fun K hK => ?_) (AllReadyH.cons (by simp only [List.getElem?_toArray, List.getElem?_cons_succ, List.getElem?_cons_zero] <;> rfl) (fun K hK => ?_) AllReadyH.nil)
      · skip
        go_simp
        go_at_call 18
        refine (H2.out _).mono ?_
        rintro e W2 ⟨v, rfl, x8, rfl, -, hL, hbw⟩
        have HL8 := Lib.hid hL
        clear hL
        go_wp2_with fail
        replace HL4 := Lib.hid (HL4.out.below hbw)
        replace HB := Lib.hid (HB.out.trans (hbw.mono HB.out.size))
        refine hK.out _ _ ?_ (fun hHeld => ?_)
        · exact HS.out _ HB.out
        clear hK K hbw
        (try simp only [Act.put, List.setIfInBounds_toArray, List.set_cons_zero, List.set_cons_succ])
        refine wpAnyH_ready (rs := [12, 15]) (by kernel_rfl) (by simp) ?_
        refine AllReadyH.cons (by simp only [List.getElem?_toArray, List.getElem?_cons_succ, List.getElem?_cons_zero] <;> rfl) (fun K hK => ?_) (AllReadyH.cons (by simp only [List.getElem?_toArray, List.getElem?_cons_succ, List.getElem?_cons_zero] <;> rfl) (fun K hK => ?_) AllReadyH.nil)
        · skip
          go_simp
          obtain ⟨W3, hWe⟩ : ∃ V, V = W2.alloc (.cells #[.int .u8 0, .int .u8 0, .int .u8 0, .int .u8 0, .int .u8 64, .int .u8 h.pr] 5) := ⟨_, rfl⟩
          obtain ⟨x12, hxe⟩ : ∃ x, x = W2.heap.size := ⟨_, rfl⟩
          have HL12 : Hid (Lies W3 (some ⟨x12, 0, none⟩) [0, 0, 0, 0, 64, h.pr]) := Lib.hid (by rw [hWe, hxe]; exact lies_lit W2 [0, 0, 0, 0, 64, h.pr] HB3.out (by simp))
          have hbw : Below W2.heap.size W2 W3 := by rw [hWe]; exact (Below.refl _ _).alloc (Nat.le_refl _) _
          rw [← hWe, ← hxe]
          clear hWe hxe
          replace HL4 := Lib.hid (HL4.out.below hbw)
          replace HL8 := Lib.hid (HL8.out.below hbw)
          replace HB := Lib.hid (HB.out.trans (hbw.mono HB.out.size))
          refine hK.out _ _ ?_ (fun hHeld => ?_)
          · exact HS.out _ HB.out
          clear hK K hbw
          (try simp only [Act.put, List.setIfInBounds_toArray, List.set_cons_zero, List.set_cons_succ])
          refine wpAnyH_ready (rs := [15]) (by kernel_rfl) (by simp) ?_
          refine AllReadyH.cons (by simp only [List.getElem?_toArray, List.getElem?_cons_succ, List.getElem?_cons_zero] <;> rfl) (fun K hK => ?_) AllReadyH.nil
          go_simp
          go_at_call 18
          refine (H3.out _).mono ?_
          rintro e W4 ⟨v, rfl, x15, rfl, -, hL, hbw⟩
          have HL15 := Lib.hid hL
          clear hL
          go_wp2_with fail
          replace HL4 := Lib.hid (HL4.out.below hbw)
          replace HL8 := Lib.hid (HL8.out.below hbw)
          replace HL12 := Lib.hid (HL12.out.below hbw)
          replace HB := Lib.hid (HB.out.trans (hbw.mono HB.out.size))
          refine hK.out _ _ ?_ (fun hHeld => ?_)
          · exact HS.out _ HB.out
          clear hK K hbw
          (try simp only [Act.put, List.setIfInBounds_toArray, List.set_cons_zero, List.set_cons_succ])
          refine wpAnyH_ready (rs := [20]) (by kernel_rfl) (by simp) ?_
          refine AllReadyH.cons (by simp only [List.getElem?_toArray, List.getElem?_cons_succ, List.getElem?_cons_zero] <;> rfl) (fun K hK => ?_) AllReadyH.nil
          go_simp
          have hrw := rows6_made HL4.out HL8.out HL12.out HL15.out (HSD.out _ HB.out).1 (HSD.out _ HB.out).2
          have HRW := Lib.hid (HPC.out ▸ hrw)
          refine hK.out _ _ ?_ (fun hHeld => ?_)
          · exact HS.out _ (HB.out.alloc HB.out.size _)
          clear hK K hrw
          (try simp only [Act.put, List.setIfInBounds_toArray, List.set_cons_zero, List.set_cons_succ])
          refine wpAnyH_take (i := 21) (v := ?_) (by simp only [List.getElem?_toArray, List.getElem?_cons_succ, List.getElem?_cons_zero] <;> rfl) (by kernel_rfl) (by kernel_rfl) (by kernel_rfl) (by exact fun _ _ _ h => h) (Or.inl ⟨by rfl, ?_⟩) hHeld ?_
          rotate_left
          · intro w hSw; (try dsimp only at hSw); go_simp; (try with_reducible rfl)
          (try simp only [Act.put, List.setIfInBounds_toArray, List.set_cons_zero, List.set_cons_succ])
          refine wpAnyH_done (by kernel_rfl) ?_ _
          go_wp2_with fail
          go_meet
          exact Lib.hid ⟨rfl, rfl, _, rfl, by simp, HRW.out, HB.out.alloc HB.out.size _⟩
        · skip
          go_simp
          go_at_call 18
          refine (H3.out _).mono ?_
          rintro e W5 ⟨v, rfl, x15, rfl, -, hL, hbw⟩
          have HL15 := Lib.hid hL
          clear hL
          go_wp2_with fail
          replace HL4 := Lib.hid (HL4.out.below hbw)
          replace HL8 := Lib.hid (HL8.out.below hbw)
          replace HB := Lib.hid (HB.out.trans (hbw.mono HB.out.size))
          refine hK.out _ _ ?_ (fun hHeld => ?_)
          · exact HS.out _ HB.out
          clear hK K hbw
          (try simp only [Act.put, List.setIfInBounds_toArray, List.set_cons_zero, List.set_cons_succ])
          refine wpAnyH_ready (rs := [12]) (by kernel_rfl) (by simp) ?_
          refine AllReadyH.cons (by simp only [List.getElem?_toArray, List.getElem?_cons_succ, List.getElem?_cons_zero] <;> rfl) (fun K hK => ?_) AllReadyH.nil
          go_simp
          obtain ⟨W6, hWe⟩ : ∃ V, V = W5.alloc (.cells #[.int .u8 0, .int .u8 0, .int .u8 0, .int .u8 0, .int .u8 64, .int .u8 h.pr] 5) := ⟨_, rfl⟩
          obtain ⟨x12, hxe⟩ : ∃ x, x = W5.heap.size := ⟨_, rfl⟩
          have HL12 : Hid (Lies W6 (some ⟨x12, 0, none⟩) [0, 0, 0, 0, 64, h.pr]) := Lib.hid (by rw [hWe, hxe]; exact lies_lit W5 [0, 0, 0, 0, 64, h.pr] HB3.out (by simp))
          have hbw : Below W5.heap.size W5 W6 := by rw [hWe]; exact (Below.refl _ _).alloc (Nat.le_refl _) _
          rw [← hWe, ← hxe]
          clear hWe hxe
          replace HL4 := Lib.hid (HL4.out.below hbw)
          replace HL8 := Lib.hid (HL8.out.below hbw)
          replace HL15 := Lib.hid (HL15.out.below hbw)
          replace HB := Lib.hid (HB.out.trans (hbw.mono HB.out.size))
          refine hK.out _ _ ?_ (fun hHeld => ?_)
          · exact HS.out _ HB.out
          clear hK K hbw
          (try simp only [Act.put, List.setIfInBounds_toArray, List.set_cons_zero, List.set_cons_succ])
          refine wpAnyH_ready (rs := [20]) (by kernel_rfl) (by simp) ?_
          refine AllReadyH.cons (by simp only [List.getElem?_toArray, List.getElem?_cons_succ, List.getElem?_cons_zero] <;> rfl) (fun K hK => ?_) AllReadyH.nil
          go_simp
          have hrw := rows6_made HL4.out HL8.out HL12.out HL15.out (HSD.out _ HB.out).1 (HSD.out _ HB.out).2
          have HRW := Lib.hid (HPC.out ▸ hrw)
          refine hK.out _ _ ?_ (fun hHeld => ?_)
          · exact HS.out _ (HB.out.alloc HB.out.size _)
          clear hK K hrw
          (try simp only [Act.put, List.setIfInBounds_toArray, List.set_cons_zero, List.set_cons_succ])
          refine wpAnyH_take (i := 21) (v := ?_) (by simp only [List.getElem?_toArray, List.getElem?_cons_succ, List.getElem?_cons_zero] <;> rfl) (by kernel_rfl) (by kernel_rfl) (by kernel_rfl) (by exact fun _ _ _ h => h) (Or.inl ⟨by rfl, ?_⟩) hHeld ?_
          rotate_left
          · intro w hSw; (try dsimp only at hSw); go_simp; (try with_reducible rfl)
          (try simp only [Act.put, List.setIfInBounds_toArray, List.set_cons_zero, List.set_cons_succ])
          refine wpAnyH_done (by kernel_rfl) ?_ _
          go_wp2_with fail
          go_meet
          exact Lib.hid ⟨rfl, rfl, _, rfl, by simp, HRW.out, HB.out.alloc HB.out.size _⟩
      · skip
        go_simp
        obtain ⟨W7, hWe⟩ : ∃ V, V = W1.alloc (.cells #[.int .u8 0, .int .u8 0, .int .u8 0, .int .u8 0, .int .u8 64, .int .u8 h.pr] 5) := ⟨_, rfl⟩
        obtain ⟨x12, hxe⟩ : ∃ x, x = W1.heap.size := ⟨_, rfl⟩
        have HL12 : Hid (Lies W7 (some ⟨x12, 0, none⟩) [0, 0, 0, 0, 64, h.pr]) := Lib.hid (by rw [hWe, hxe]; exact lies_lit W1 [0, 0, 0, 0, 64, h.pr] HB3.out (by simp))
        have hbw : Below W1.heap.size W1 W7 := by rw [hWe]; exact (Below.refl _ _).alloc (Nat.le_refl _) _
        rw [← hWe, ← hxe]
        clear hWe hxe
        replace HL4 := Lib.hid (HL4.out.below hbw)
        replace HB := Lib.hid (HB.out.trans (hbw.mono HB.out.size))
        refine hK.out _ _ ?_ (fun hHeld => ?_)
        · exact HS.out _ HB.out
        clear hK K hbw
        (try simp only [Act.put, List.setIfInBounds_toArray, List.set_cons_zero, List.set_cons_succ])
        refine wpAnyH_ready (rs := [8]) (by kernel_rfl) (by simp) ?_
        refine AllReadyH.cons (by simp only [List.getElem?_toArray, List.getElem?_cons_succ, List.getElem?_cons_zero] <;> rfl) (fun K hK => ?_) AllReadyH.nil
        go_simp
        go_at_call 18
        refine (H2.out _).mono ?_
        rintro e W8 ⟨v, rfl, x8, rfl, -, hL, hbw⟩
        have HL8 := Lib.hid hL
        clear hL
        go_wp2_with fail
        replace HL4 := Lib.hid (HL4.out.below hbw)
        replace HL12 := Lib.hid (HL12.out.below hbw)
        replace HB := Lib.hid (HB.out.trans (hbw.mono HB.out.size))
        refine hK.out _ _ ?_ (fun hHeld => ?_)
        · exact HS.out _ HB.out
        clear hK K hbw
        (try simp only [Act.put, List.setIfInBounds_toArray, List.set_cons_zero, List.set_cons_succ])
        refine wpAnyH_ready (rs := [15]) (by kernel_rfl) (by simp) ?_
        refine AllReadyH.cons (by simp only [List.getElem?_toArray, List.getElem?_cons_succ, List.getElem?_cons_zero] <;> rfl) (fun K hK => ?_) AllReadyH.nil
        go_simp
        go_at_call 18
        refine (H3.out _).mono ?_
        rintro e W9 ⟨v, rfl, x15, rfl, -, hL, hbw⟩
        have HL15 := Lib.hid hL
        clear hL
        go_wp2_with fail
        replace HL4 := Lib.hid (HL4.out.below hbw)
        replace HL12 := Lib.hid (HL12.out.below hbw)
        replace HL8 := Lib.hid (HL8.out.below hbw)
        replace HB := Lib.hid (HB.out.trans (hbw.mono HB.out.size))
        refine hK.out _ _ ?_ (fun hHeld => ?_)
        · exact HS.out _ HB.out
        clear hK K hbw
        (try simp only [Act.put, List.setIfInBounds_toArray, List.set_cons_zero, List.set_cons_succ])
        refine wpAnyH_ready (rs := [20]) (by kernel_rfl) (by simp) ?_
        refine AllReadyH.cons (by simp only [List.getElem?_toArray, List.getElem?_cons_succ, List.getElem?_cons_zero] <;> rfl) (fun K hK => ?_) AllReadyH.nil
        go_simp
        have hrw := rows6_made HL4.out HL8.out HL12.out HL15.out (HSD.out _ HB.out).1 (HSD.out _ HB.out).2
        have HRW := Lib.hid (HPC.out ▸ hrw)
        refine hK.out _ _ ?_ (fun hHeld => ?_)
        · exact HS.out _ (HB.out.alloc HB.out.size _)
        clear hK K hrw
        (try simp only [Act.put, List.setIfInBounds_toArray, List.set_cons_zero, List.set_cons_succ])
        refine wpAnyH_take (i := 21) (v := ?_) (by simp only [List.getElem?_toArray, List.getElem?_cons_succ, List.getElem?_cons_zero] <;> rfl) (by kernel_rfl) (by kernel_rfl) (by kernel_rfl) (by exact fun _ _ _ h => h) (Or.inl ⟨by rfl, ?_⟩) hHeld ?_
        rotate_left
        · intro w hSw; (try dsimp only at hSw); go_simp; (try with_reducible rfl)
        (try simp only [Act.put, List.setIfInBounds_toArray, List.set_cons_zero, List.set_cons_succ])
        refine wpAnyH_done (by kernel_rfl) ?_ _
        go_wp2_with fail
        go_meet
        exact Lib.hid ⟨rfl, rfl, _, rfl, by simp, HRW.out, HB.out.alloc HB.out.size _⟩
    · skip
      go_simp
      go_at_call 18
      refine (H2.out _).mono ?_
      rintro e W10 ⟨v, rfl, x8, rfl, -, hL, hbw⟩
      have HL8 := Lib.hid hL
      clear hL
      go_wp2_with fail
      replace HB := Lib.hid (HB.out.trans (hbw.mono HB.out.size))
      refine hK.out _ _ ?_ (fun hHeld => ?_)
      · exact HS.out _ HB.out
      clear hK K hbw
      (try simp only [Act.put, List.setIfInBounds_toArray, List.set_cons_zero, List.set_cons_succ])
      refine wpAnyH_ready (rs := [4, 12, 15]) (by kernel_rfl) (by simp) ?_
      refine AllReadyH.cons (by simp only [List.getElem?_toArray, List.getElem?_cons_succ, List.getElem?_cons_zero] <;> rfl) (fun K hK => ?_) (AllReadyH.cons (by simp only [List.getElem?_toArray, List.getElem?_cons_succ, List.getElem?_cons_zero] <;> rfl) (fun K hK => ?_) (AllReadyH.cons (by simp only [List.getElem?_toArray, List.getElem?_cons_succ, List.getElem?_cons_zero] <;> rfl) (fun K hK => ?_) AllReadyH.nil))
      · skip
        go_simp
        obtain ⟨W11, hWe⟩ : ∃ V, V = W10.alloc (.cells #[.int .u8 69, .int .u8 (4 * h.ma)] 5) := ⟨_, rfl⟩
        obtain ⟨x4, hxe⟩ : ∃ x, x = W10.heap.size := ⟨_, rfl⟩
        have HL4 : Hid (Lies W11 (some ⟨x4, 0, none⟩) [69, 4 * h.ma]) := Lib.hid (by rw [hWe, hxe]; exact lies_lit W10 [69, 4 * h.ma] HB1.out (by simp))
        have hbw : Below W10.heap.size W10 W11 := by rw [hWe]; exact (Below.refl _ _).alloc (Nat.le_refl _) _
        rw [← hWe, ← hxe]
        clear hWe hxe
        replace HL8 := Lib.hid (HL8.out.below hbw)
        replace HB := Lib.hid (HB.out.trans (hbw.mono HB.out.size))
        refine hK.out _ _ ?_ (fun hHeld => ?_)
        · exact HS.out _ HB.out
        clear hK K hbw
        (try simp only [Act.put, List.setIfInBounds_toArray, List.set_cons_zero, List.set_cons_succ])
        refine wpAnyH_ready (rs := [12, 15]) (by kernel_rfl) (by simp) ?_
        refine AllReadyH.cons (by simp only [List.getElem?_toArray, List.getElem?_cons_succ, List.getElem?_cons_zero] <;> rfl) (fun K hK => ?_) (AllReadyH.cons (by simp only [List.getElem?_toArray, List.getElem?_cons_succ, List.getElem?_cons_zero] <;> rfl) (fun K hK => ?_) AllReadyH.nil)
        · skip
          go_simp
          obtain ⟨W12, hWe⟩ : ∃ V, V = W11.alloc (.cells #[.int .u8 0, .int .u8 0, .int .u8 0, .int .u8 0, .int .u8 64, .int .u8 h.pr] 5) := ⟨_, rfl⟩
          obtain ⟨x12, hxe⟩ : ∃ x, x = W11.heap.size := ⟨_, rfl⟩
          have HL12 : Hid (Lies W12 (some ⟨x12, 0, none⟩) [0, 0, 0, 0, 64, h.pr]) := Lib.hid (by rw [hWe, hxe]; exact lies_lit W11 [0, 0, 0, 0, 64, h.pr] HB3.out (by simp))
          have hbw : Below W11.heap.size W11 W12 := by rw [hWe]; exact (Below.refl _ _).alloc (Nat.le_refl _) _
          rw [← hWe, ← hxe]
          clear hWe hxe
          replace HL8 := Lib.hid (HL8.out.below hbw)
          replace HL4 := Lib.hid (HL4.out.below hbw)
          replace HB := Lib.hid (HB.out.trans (hbw.mono HB.out.size))
          refine hK.out _ _ ?_ (fun hHeld => ?_)
          · exact HS.out _ HB.out
          clear hK K hbw
          (try simp only [Act.put, List.setIfInBounds_toArray, List.set_cons_zero, List.set_cons_succ])
          refine wpAnyH_ready (rs := [15]) (by kernel_rfl) (by simp) ?_
          refine AllReadyH.cons (by simp only [List.getElem?_toArray, List.getElem?_cons_succ, List.getElem?_cons_zero] <;> rfl) (fun K hK => ?_) AllReadyH.nil
          go_simp
          go_at_call 18
          refine (H3.out _).mono ?_
          rintro e W13 ⟨v, rfl, x15, rfl, -, hL, hbw⟩
          have HL15 := Lib.hid hL
          clear hL
          go_wp2_with fail
          replace HL8 := Lib.hid (HL8.out.below hbw)
          replace HL4 := Lib.hid (HL4.out.below hbw)
          replace HL12 := Lib.hid (HL12.out.below hbw)
          replace HB := Lib.hid (HB.out.trans (hbw.mono HB.out.size))
          refine hK.out _ _ ?_ (fun hHeld => ?_)
          · exact HS.out _ HB.out
          clear hK K hbw
          (try simp only [Act.put, List.setIfInBounds_toArray, List.set_cons_zero, List.set_cons_succ])
          refine wpAnyH_ready (rs := [20]) (by kernel_rfl) (by simp) ?_
          refine AllReadyH.cons (by simp only [List.getElem?_toArray, List.getElem?_cons_succ, List.getElem?_cons_zero] <;> rfl) (fun K hK => ?_) AllReadyH.nil
          go_simp
          have hrw := rows6_made HL4.out HL8.out HL12.out HL15.out (HSD.out _ HB.out).1 (HSD.out _ HB.out).2
          have HRW := Lib.hid (HPC.out ▸ hrw)
          refine hK.out _ _ ?_ (fun hHeld => ?_)
          · exact HS.out _ (HB.out.alloc HB.out.size _)
          clear hK K hrw
          (try simp only [Act.put, List.setIfInBounds_toArray, List.set_cons_zero, List.set_cons_succ])
          refine wpAnyH_take (i := 21) (v := ?_) (by simp only [List.getElem?_toArray, List.getElem?_cons_succ, List.getElem?_cons_zero] <;> rfl) (by kernel_rfl) (by kernel_rfl) (by kernel_rfl) (by exact fun _ _ _ h => h) (Or.inl ⟨by rfl, ?_⟩) hHeld ?_
          rotate_left
          · intro w hSw; (try dsimp only at hSw); go_simp; (try with_reducible rfl)
          (try simp only [Act.put, List.setIfInBounds_toArray, List.set_cons_zero, List.set_cons_succ])
          refine wpAnyH_done (by kernel_rfl) ?_ _
          go_wp2_with fail
          go_meet
          exact Lib.hid ⟨rfl, rfl, _, rfl, by simp, HRW.out, HB.out.alloc HB.out.size _⟩
        · skip
          go_simp
          go_at_call 18
          refine (H3.out _).mono ?_
          rintro e W14 ⟨v, rfl, x15, rfl, -, hL, hbw⟩
          have HL15 := Lib.hid hL
          clear hL
          go_wp2_with fail
          replace HL8 := Lib.hid (HL8.out.below hbw)
          replace HL4 := Lib.hid (HL4.out.below hbw)
          replace HB := Lib.hid (HB.out.trans (hbw.mono HB.out.size))
          refine hK.out _ _ ?_ (fun hHeld => ?_)
          · exact HS.out _ HB.out
          clear hK K hbw
          (try simp only [Act.put, List.setIfInBounds_toArray, List.set_cons_zero, List.set_cons_succ])
          refine wpAnyH_ready (rs := [12]) (by kernel_rfl) (by simp) ?_
          refine AllReadyH.cons (by simp only [List.getElem?_toArray, List.getElem?_cons_succ, List.getElem?_cons_zero] <;> rfl) (fun K hK => ?_) AllReadyH.nil
          go_simp
          obtain ⟨W15, hWe⟩ : ∃ V, V = W14.alloc (.cells #[.int .u8 0, .int .u8 0, .int .u8 0, .int .u8 0, .int .u8 64, .int .u8 h.pr] 5) := ⟨_, rfl⟩
          obtain ⟨x12, hxe⟩ : ∃ x, x = W14.heap.size := ⟨_, rfl⟩
          have HL12 : Hid (Lies W15 (some ⟨x12, 0, none⟩) [0, 0, 0, 0, 64, h.pr]) := Lib.hid (by rw [hWe, hxe]; exact lies_lit W14 [0, 0, 0, 0, 64, h.pr] HB3.out (by simp))
          have hbw : Below W14.heap.size W14 W15 := by rw [hWe]; exact (Below.refl _ _).alloc (Nat.le_refl _) _
          rw [← hWe, ← hxe]
          clear hWe hxe
          replace HL8 := Lib.hid (HL8.out.below hbw)
          replace HL4 := Lib.hid (HL4.out.below hbw)
          replace HL15 := Lib.hid (HL15.out.below hbw)
          replace HB := Lib.hid (HB.out.trans (hbw.mono HB.out.size))
          refine hK.out _ _ ?_ (fun hHeld => ?_)
          · exact HS.out _ HB.out
          clear hK K hbw
          (try simp only [Act.put, List.setIfInBounds_toArray, List.set_cons_zero, List.set_cons_succ])
          refine wpAnyH_ready (rs := [20]) (by kernel_rfl) (by simp) ?_
          refine AllReadyH.cons (by simp only [List.getElem?_toArray, List.getElem?_cons_succ, List.getElem?_cons_zero] <;> rfl) (fun K hK => ?_) AllReadyH.nil
          go_simp
          have hrw := rows6_made HL4.out HL8.out HL12.out HL15.out (HSD.out _ HB.out).1 (HSD.out _ HB.out).2
          have HRW := Lib.hid (HPC.out ▸ hrw)
          refine hK.out _ _ ?_ (fun hHeld => ?_)
          · exact HS.out _ (HB.out.alloc HB.out.size _)
          clear hK K hrw
          (try simp only [Act.put, List.setIfInBounds_toArray, List.set_cons_zero, List.set_cons_succ])
          refine wpAnyH_take (i := 21) (v := ?_) (by simp only [List.getElem?_toArray, List.getElem?_cons_succ, List.getElem?_cons_zero] <;> rfl) (by kernel_rfl) (by kernel_rfl) (by kernel_rfl) (by exact fun _ _ _ h => h) (Or.inl ⟨by rfl, ?_⟩) hHeld ?_
          rotate_left
          · intro w hSw; (try dsimp only at hSw); go_simp; (try with_reducible rfl)
          (try simp only [Act.put, List.setIfInBounds_toArray, List.set_cons_zero, List.set_cons_succ])
          refine wpAnyH_done (by kernel_rfl) ?_ _
          go_wp2_with fail
          go_meet
          exact Lib.hid ⟨rfl, rfl, _, rfl, by simp, HRW.out, HB.out.alloc HB.out.size _⟩
      · skip
        go_simp
        obtain ⟨W16, hWe⟩ : ∃ V, V = W10.alloc (.cells #[.int .u8 0, .int .u8 0, .int .u8 0, .int .u8 0, .int .u8 64, .int .u8 h.pr] 5) := ⟨_, rfl⟩
        obtain ⟨x12, hxe⟩ : ∃ x, x = W10.heap.size := ⟨_, rfl⟩
        have HL12 : Hid (Lies W16 (some ⟨x12, 0, none⟩) [0, 0, 0, 0, 64, h.pr]) := Lib.hid (by rw [hWe, hxe]; exact lies_lit W10 [0, 0, 0, 0, 64, h.pr] HB3.out (by simp))
        have hbw : Below W10.heap.size W10 W16 := by rw [hWe]; exact (Below.refl _ _).alloc (Nat.le_refl _) _
        rw [← hWe, ← hxe]
        clear hWe hxe
        replace HL8 := Lib.hid (HL8.out.below hbw)
        replace HB := Lib.hid (HB.out.trans (hbw.mono HB.out.size))
        refine hK.out _ _ ?_ (fun hHeld => ?_)
        · exact HS.out _ HB.out
        clear hK K hbw
        (try simp only [Act.put, List.setIfInBounds_toArray, List.set_cons_zero, List.set_cons_succ])
        refine wpAnyH_ready (rs := [4, 15]) (by kernel_rfl) (by simp) ?_
        refine AllReadyH.cons (by simp only [List.getElem?_toArray, List.getElem?_cons_succ, List.getElem?_cons_zero] <;> rfl) (fun K hK => ?_) (AllReadyH.cons (by simp only [List.getElem?_toArray, List.getElem?_cons_succ, List.getElem?_cons_zero] <;> rfl) (fun K hK => ?_) AllReadyH.nil)
        · skip
          go_simp
          obtain ⟨W17, hWe⟩ : ∃ V, V = W16.alloc (.cells #[.int .u8 69, .int .u8 (4 * h.ma)] 5) := ⟨_, rfl⟩
          obtain ⟨x4, hxe⟩ : ∃ x, x = W16.heap.size := ⟨_, rfl⟩
          have HL4 : Hid (Lies W17 (some ⟨x4, 0, none⟩) [69, 4 * h.ma]) := Lib.hid (by rw [hWe, hxe]; exact lies_lit W16 [69, 4 * h.ma] HB1.out (by simp))
          have hbw : Below W16.heap.size W16 W17 := by rw [hWe]; exact (Below.refl _ _).alloc (Nat.le_refl _) _
          rw [← hWe, ← hxe]
          clear hWe hxe
          replace HL8 := Lib.hid (HL8.out.below hbw)
          replace HL12 := Lib.hid (HL12.out.below hbw)
          replace HB := Lib.hid (HB.out.trans (hbw.mono HB.out.size))
          refine hK.out _ _ ?_ (fun hHeld => ?_)
          · exact HS.out _ HB.out
          clear hK K hbw
          (try simp only [Act.put, List.setIfInBounds_toArray, List.set_cons_zero, List.set_cons_succ])
          refine wpAnyH_ready (rs := [15]) (by kernel_rfl) (by simp) ?_
          refine AllReadyH.cons (by simp only [List.getElem?_toArray, List.getElem?_cons_succ, List.getElem?_cons_zero] <;> rfl) (fun K hK => ?_) AllReadyH.nil
          go_simp
          go_at_call 18
          refine (H3.out _).mono ?_
          rintro e W18 ⟨v, rfl, x15, rfl, -, hL, hbw⟩
          have HL15 := Lib.hid hL
          clear hL
          go_wp2_with fail
          replace HL8 := Lib.hid (HL8.out.below hbw)
          replace HL12 := Lib.hid (HL12.out.below hbw)
          replace HL4 := Lib.hid (HL4.out.below hbw)
          replace HB := Lib.hid (HB.out.trans (hbw.mono HB.out.size))
          refine hK.out _ _ ?_ (fun hHeld => ?_)
          · exact HS.out _ HB.out
          clear hK K hbw
          (try simp only [Act.put, List.setIfInBounds_toArray, List.set_cons_zero, List.set_cons_succ])
          refine wpAnyH_ready (rs := [20]) (by kernel_rfl) (by simp) ?_
          refine AllReadyH.cons (by simp only [List.getElem?_toArray, List.getElem?_cons_succ, List.getElem?_cons_zero] <;> rfl) (fun K hK => ?_) AllReadyH.nil
          go_simp
          have hrw := rows6_made HL4.out HL8.out HL12.out HL15.out (HSD.out _ HB.out).1 (HSD.out _ HB.out).2
          have HRW := Lib.hid (HPC.out ▸ hrw)
          refine hK.out _ _ ?_ (fun hHeld => ?_)
          · exact HS.out _ (HB.out.alloc HB.out.size _)
          clear hK K hrw
          (try simp only [Act.put, List.setIfInBounds_toArray, List.set_cons_zero, List.set_cons_succ])
          refine wpAnyH_take (i := 21) (v := ?_) (by simp only [List.getElem?_toArray, List.getElem?_cons_succ, List.getElem?_cons_zero] <;> rfl) (by kernel_rfl) (by kernel_rfl) (by kernel_rfl) (by exact fun _ _ _ h => h) (Or.inl ⟨by rfl, ?_⟩) hHeld ?_
          rotate_left
          · intro w hSw; (try dsimp only at hSw); go_simp; (try with_reducible rfl)
          (try simp only [Act.put, List.setIfInBounds_toArray, List.set_cons_zero, List.set_cons_succ])
          refine wpAnyH_done (by kernel_rfl) ?_ _
          go_wp2_with fail
          go_meet
          exact Lib.hid ⟨rfl, rfl, _, rfl, by simp, HRW.out, HB.out.alloc HB.out.size _⟩
        · skip
          go_simp
          go_at_call 18
          refine (H3.out _).mono ?_
          rintro e W19 ⟨v, rfl, x15, rfl, -, hL, hbw⟩
          have HL15 := Lib.hid hL
          clear hL
          go_wp2_with fail
          replace HL8 := Lib.hid (HL8.out.below hbw)
          replace HL12 := Lib.hid (HL12.out.below hbw)
          replace HB := Lib.hid (HB.out.trans (hbw.mono HB.out.size))
          refine hK.out _ _ ?_ (fun hHeld => ?_)
          · exact HS.out _ HB.out
          clear hK K hbw
          (try simp only [Act.put, List.setIfInBounds_toArray, List.set_cons_zero, List.set_cons_succ])
          refine wpAnyH_ready (rs := [4]) (by kernel_rfl) (by simp) ?_
          refine AllReadyH.cons (by simp only [List.getElem?_toArray, List.getElem?_cons_succ, List.getElem?_cons_zero] <;> rfl) (fun K hK => ?_) AllReadyH.nil
          go_simp
          obtain ⟨W20, hWe⟩ : ∃ V, V = W19.alloc (.cells #[.int .u8 69, .int .u8 (4 * h.ma)] 5) := ⟨_, rfl⟩
          obtain ⟨x4, hxe⟩ : ∃ x, x = W19.heap.size := ⟨_, rfl⟩
          have HL4 : Hid (Lies W20 (some ⟨x4, 0, none⟩) [69, 4 * h.ma]) := Lib.hid (by rw [hWe, hxe]; exact lies_lit W19 [69, 4 * h.ma] HB1.out (by simp))
          have hbw : Below W19.heap.size W19 W20 := by rw [hWe]; exact (Below.refl _ _).alloc (Nat.le_refl _) _
          rw [← hWe, ← hxe]
          clear hWe hxe
          replace HL8 := Lib.hid (HL8.out.below hbw)
          replace HL12 := Lib.hid (HL12.out.below hbw)
          replace HL15 := Lib.hid (HL15.out.below hbw)
          replace HB := Lib.hid (HB.out.trans (hbw.mono HB.out.size))
          refine hK.out _ _ ?_ (fun hHeld => ?_)
          · exact HS.out _ HB.out
          clear hK K hbw
          (try simp only [Act.put, List.setIfInBounds_toArray, List.set_cons_zero, List.set_cons_succ])
          refine wpAnyH_ready (rs := [20]) (by kernel_rfl) (by simp) ?_
          refine AllReadyH.cons (by simp only [List.getElem?_toArray, List.getElem?_cons_succ, List.getElem?_cons_zero] <;> rfl) (fun K hK => ?_) AllReadyH.nil
          go_simp
          have hrw := rows6_made HL4.out HL8.out HL12.out HL15.out (HSD.out _ HB.out).1 (HSD.out _ HB.out).2
          have HRW := Lib.hid (HPC.out ▸ hrw)
          refine hK.out _ _ ?_ (fun hHeld => ?_)
          · exact HS.out _ (HB.out.alloc HB.out.size _)
          clear hK K hrw
          (try simp only [Act.put, List.setIfInBounds_toArray, List.set_cons_zero, List.set_cons_succ])
          refine wpAnyH_take (i := 21) (v := ?_) (by simp only [List.getElem?_toArray, List.getElem?_cons_succ, List.getElem?_cons_zero] <;> rfl) (by kernel_rfl) (by kernel_rfl) (by kernel_rfl) (by exact fun _ _ _ h => h) (Or.inl ⟨by rfl, ?_⟩) hHeld ?_
          rotate_left
          · intro w hSw; (try dsimp only at hSw); go_simp; (try with_reducible rfl)
          (try simp only [Act.put, List.setIfInBounds_toArray, List.set_cons_zero, List.set_cons_succ])
          refine wpAnyH_done (by kernel_rfl) ?_ _
          go_wp2_with fail
          go_meet
          exact Lib.hid ⟨rfl, rfl, _, rfl, by simp, HRW.out, HB.out.alloc HB.out.size _⟩
      · skip
        go_simp
        go_at_call 18
        refine (H3.out _).mono ?_
        rintro e W21 ⟨v, rfl, x15, rfl, -, hL, hbw⟩
        have HL15 := Lib.hid hL
        clear hL
        go_wp2_with fail
        replace HL8 := Lib.hid (HL8.out.below hbw)
        replace HB := Lib.hid (HB.out.trans (hbw.mono HB.out.size))
        refine hK.out _ _ ?_ (fun hHeld => ?_)
        · exact HS.out _ HB.out
        clear hK K hbw
        (try simp only [Act.put, List.setIfInBounds_toArray, List.set_cons_zero, List.set_cons_succ])
        refine wpAnyH_ready (rs := [4, 12]) (by kernel_rfl) (by simp) ?_
        refine AllReadyH.cons (by simp only [List.getElem?_toArray, List.getElem?_cons_succ, List.getElem?_cons_zero] <;> rfl) (fun K hK => ?_) (AllReadyH.cons (by simp only [List.getElem?_toArray, List.getElem?_cons_succ, List.getElem?_cons_zero] <;> rfl) (fun K hK => ?_) AllReadyH.nil)
        · skip
          go_simp
          obtain ⟨W22, hWe⟩ : ∃ V, V = W21.alloc (.cells #[.int .u8 69, .int .u8 (4 * h.ma)] 5) := ⟨_, rfl⟩
          obtain ⟨x4, hxe⟩ : ∃ x, x = W21.heap.size := ⟨_, rfl⟩
          have HL4 : Hid (Lies W22 (some ⟨x4, 0, none⟩) [69, 4 * h.ma]) := Lib.hid (by rw [hWe, hxe]; exact lies_lit W21 [69, 4 * h.ma] HB1.out (by simp))
          have hbw : Below W21.heap.size W21 W22 := by rw [hWe]; exact (Below.refl _ _).alloc (Nat.le_refl _) _
          rw [← hWe, ← hxe]
          clear hWe hxe
          replace HL8 := Lib.hid (HL8.out.below hbw)
          replace HL15 := Lib.hid (HL15.out.below hbw)
          replace HB := Lib.hid (HB.out.trans (hbw.mono HB.out.size))
          refine hK.out _ _ ?_ (fun hHeld => ?_)
          · exact HS.out _ HB.out
          clear hK K hbw
          (try simp only [Act.put, List.setIfInBounds_toArray, List.set_cons_zero, List.set_cons_succ])
          refine wpAnyH_ready (rs := [12]) (by kernel_rfl) (by simp) ?_
          refine AllReadyH.cons (by simp only [List.getElem?_toArray, List.getElem?_cons_succ, List.getElem?_cons_zero] <;> rfl) (fun K hK => ?_) AllReadyH.nil
          go_simp
          obtain ⟨W23, hWe⟩ : ∃ V, V = W22.alloc (.cells #[.int .u8 0, .int .u8 0, .int .u8 0, .int .u8 0, .int .u8 64, .int .u8 h.pr] 5) := ⟨_, rfl⟩
          obtain ⟨x12, hxe⟩ : ∃ x, x = W22.heap.size := ⟨_, rfl⟩
          have HL12 : Hid (Lies W23 (some ⟨x12, 0, none⟩) [0, 0, 0, 0, 64, h.pr]) := Lib.hid (by rw [hWe, hxe]; exact lies_lit W22 [0, 0, 0, 0, 64, h.pr] HB3.out (by simp))
          have hbw : Below W22.heap.size W22 W23 := by rw [hWe]; exact (Below.refl _ _).alloc (Nat.le_refl _) _
          rw [← hWe, ← hxe]
          clear hWe hxe
          replace HL8 := Lib.hid (HL8.out.below hbw)
          replace HL15 := Lib.hid (HL15.out.below hbw)
          replace HL4 := Lib.hid (HL4.out.below hbw)
          replace HB := Lib.hid (HB.out.trans (hbw.mono HB.out.size))
          refine hK.out _ _ ?_ (fun hHeld => ?_)
          · exact HS.out _ HB.out
          clear hK K hbw
          (try simp only [Act.put, List.setIfInBounds_toArray, List.set_cons_zero, List.set_cons_succ])
          refine wpAnyH_ready (rs := [20]) (by kernel_rfl) (by simp) ?_
          refine AllReadyH.cons (by simp only [List.getElem?_toArray, List.getElem?_cons_succ, List.getElem?_cons_zero] <;> rfl) (fun K hK => ?_) AllReadyH.nil
          go_simp
          have hrw := rows6_made HL4.out HL8.out HL12.out HL15.out (HSD.out _ HB.out).1 (HSD.out _ HB.out).2
          have HRW := Lib.hid (HPC.out ▸ hrw)
          refine hK.out _ _ ?_ (fun hHeld => ?_)
          · exact HS.out _ (HB.out.alloc HB.out.size _)
          clear hK K hrw
          (try simp only [Act.put, List.setIfInBounds_toArray, List.set_cons_zero, List.set_cons_succ])
          refine wpAnyH_take (i := 21) (v := ?_) (by simp only [List.getElem?_toArray, List.getElem?_cons_succ, List.getElem?_cons_zero] <;> rfl) (by kernel_rfl) (by kernel_rfl) (by kernel_rfl) (by exact fun _ _ _ h => h) (Or.inl ⟨by rfl, ?_⟩) hHeld ?_
          rotate_left
          · intro w hSw; (try dsimp only at hSw); go_simp; (try with_reducible rfl)
          (try simp only [Act.put, List.setIfInBounds_toArray, List.set_cons_zero, List.set_cons_succ])
          refine wpAnyH_done (by kernel_rfl) ?_ _
          go_wp2_with fail
          go_meet
          exact Lib.hid ⟨rfl, rfl, _, rfl, by simp, HRW.out, HB.out.alloc HB.out.size _⟩
        · skip
          go_simp
          obtain ⟨W24, hWe⟩ : ∃ V, V = W21.alloc (.cells #[.int .u8 0, .int .u8 0, .int .u8 0, .int .u8 0, .int .u8 64, .int .u8 h.pr] 5) := ⟨_, rfl⟩
          obtain ⟨x12, hxe⟩ : ∃ x, x = W21.heap.size := ⟨_, rfl⟩
          have HL12 : Hid (Lies W24 (some ⟨x12, 0, none⟩) [0, 0, 0, 0, 64, h.pr]) := Lib.hid (by rw [hWe, hxe]; exact lies_lit W21 [0, 0, 0, 0, 64, h.pr] HB3.out (by simp))
          have hbw : Below W21.heap.size W21 W24 := by rw [hWe]; exact (Below.refl _ _).alloc (Nat.le_refl _) _
          rw [← hWe, ← hxe]
          clear hWe hxe
          replace HL8 := Lib.hid (HL8.out.below hbw)
          replace HL15 := Lib.hid (HL15.out.below hbw)
          replace HB := Lib.hid (HB.out.trans (hbw.mono HB.out.size))
          refine hK.out _ _ ?_ (fun hHeld => ?_)
          · exact HS.out _ HB.out
          clear hK K hbw
          (try simp only [Act.put, List.setIfInBounds_toArray, List.set_cons_zero, List.set_cons_succ])
          refine wpAnyH_ready (rs := [4]) (by kernel_rfl) (by simp) ?_
          refine AllReadyH.cons (by simp only [List.getElem?_toArray, List.getElem?_cons_succ, List.getElem?_cons_zero] <;> rfl) (fun K hK => ?_) AllReadyH.nil
          go_simp
          obtain ⟨W25, hWe⟩ : ∃ V, V = W24.alloc (.cells #[.int .u8 69, .int .u8 (4 * h.ma)] 5) := ⟨_, rfl⟩
          obtain ⟨x4, hxe⟩ : ∃ x, x = W24.heap.size := ⟨_, rfl⟩
          have HL4 : Hid (Lies W25 (some ⟨x4, 0, none⟩) [69, 4 * h.ma]) := Lib.hid (by rw [hWe, hxe]; exact lies_lit W24 [69, 4 * h.ma] HB1.out (by simp))
          have hbw : Below W24.heap.size W24 W25 := by rw [hWe]; exact (Below.refl _ _).alloc (Nat.le_refl _) _
          rw [← hWe, ← hxe]
          clear hWe hxe
          replace HL8 := Lib.hid (HL8.out.below hbw)
          replace HL15 := Lib.hid (HL15.out.below hbw)
          replace HL12 := Lib.hid (HL12.out.below hbw)
          replace HB := Lib.hid (HB.out.trans (hbw.mono HB.out.size))
          refine hK.out _ _ ?_ (fun hHeld => ?_)
          · exact HS.out _ HB.out
          clear hK K hbw
          (try simp only [Act.put, List.setIfInBounds_toArray, List.set_cons_zero, List.set_cons_succ])
          refine wpAnyH_ready (rs := [20]) (by kernel_rfl) (by simp) ?_
          refine AllReadyH.cons (by simp only [List.getElem?_toArray, List.getElem?_cons_succ, List.getElem?_cons_zero] <;> rfl) (fun K hK => ?_) AllReadyH.nil
          go_simp
          have hrw := rows6_made HL4.out HL8.out HL12.out HL15.out (HSD.out _ HB.out).1 (HSD.out _ HB.out).2
          have HRW := Lib.hid (HPC.out ▸ hrw)
          refine hK.out _ _ ?_ (fun hHeld => ?_)
          · exact HS.out _ (HB.out.alloc HB.out.size _)
          clear hK K hrw
          (try simp only [Act.put, List.setIfInBounds_toArray, List.set_cons_zero, List.set_cons_succ])
          refine wpAnyH_take (i := 21) (v := ?_) (by simp only [List.getElem?_toArray, List.getElem?_cons_succ, List.getElem?_cons_zero] <;> rfl) (by kernel_rfl) (by kernel_rfl) (by kernel_rfl) (by exact fun _ _ _ h => h) (Or.inl ⟨by rfl, ?_⟩) hHeld ?_
          rotate_left
          · intro w hSw; (try dsimp only at hSw); go_simp; (try with_reducible rfl)
          (try simp only [Act.put, List.setIfInBounds_toArray, List.set_cons_zero, List.set_cons_succ])
          refine wpAnyH_done (by kernel_rfl) ?_ _
          go_wp2_with fail
          go_meet
          exact Lib.hid ⟨rfl, rfl, _, rfl, by simp, HRW.out, HB.out.alloc HB.out.size _⟩
    · skip
      go_simp
      obtain ⟨W26, hWe⟩ : ∃ V, V = W0.alloc (.cells #[.int .u8 0, .int .u8 0, .int .u8 0, .int .u8 0, .int .u8 64, .int .u8 h.pr] 5) := ⟨_, rfl⟩
      obtain ⟨x12, hxe⟩ : ∃ x, x = W0.heap.size := ⟨_, rfl⟩
      have HL12 : Hid (Lies W26 (some ⟨x12, 0, none⟩) [0, 0, 0, 0, 64, h.pr]) := Lib.hid (by rw [hWe, hxe]; exact lies_lit W0 [0, 0, 0, 0, 64, h.pr] HB3.out (by simp))
      have hbw : Below W0.heap.size W0 W26 := by rw [hWe]; exact (Below.refl _ _).alloc (Nat.le_refl _) _
      rw [← hWe, ← hxe]
      clear hWe hxe
      replace HB := Lib.hid (HB.out.trans (hbw.mono HB.out.size))
      refine hK.out _ _ ?_ (fun hHeld => ?_)
      · exact HS.out _ HB.out
      clear hK K hbw
      (try simp only [Act.put, List.setIfInBounds_toArray, List.set_cons_zero, List.set_cons_succ])
      refine wpAnyH_ready (rs := [4, 8]) (by kernel_rfl) (by simp) ?_
      refine AllReadyH.cons (by simp only [List.getElem?_toArray, List.getElem?_cons_succ, List.getElem?_cons_zero] <;> rfl) (fun K hK => ?_) (AllReadyH.cons (by simp only [List.getElem?_toArray, List.getElem?_cons_succ, List.getElem?_cons_zero] <;> rfl) (fun K hK => ?_) AllReadyH.nil)
      · skip
        go_simp
        obtain ⟨W27, hWe⟩ : ∃ V, V = W26.alloc (.cells #[.int .u8 69, .int .u8 (4 * h.ma)] 5) := ⟨_, rfl⟩
        obtain ⟨x4, hxe⟩ : ∃ x, x = W26.heap.size := ⟨_, rfl⟩
        have HL4 : Hid (Lies W27 (some ⟨x4, 0, none⟩) [69, 4 * h.ma]) := Lib.hid (by rw [hWe, hxe]; exact lies_lit W26 [69, 4 * h.ma] HB1.out (by simp))
        have hbw : Below W26.heap.size W26 W27 := by rw [hWe]; exact (Below.refl _ _).alloc (Nat.le_refl _) _
        rw [← hWe, ← hxe]
        clear hWe hxe
        replace HL12 := Lib.hid (HL12.out.below hbw)
        replace HB := Lib.hid (HB.out.trans (hbw.mono HB.out.size))
        refine hK.out _ _ ?_ (fun hHeld => ?_)
        · exact HS.out _ HB.out
        clear hK K hbw
        (try simp only [Act.put, List.setIfInBounds_toArray, List.set_cons_zero, List.set_cons_succ])
        refine wpAnyH_ready (rs := [8]) (by kernel_rfl) (by simp) ?_
        refine AllReadyH.cons (by simp only [List.getElem?_toArray, List.getElem?_cons_succ, List.getElem?_cons_zero] <;> rfl) (fun K hK => ?_) AllReadyH.nil
        go_simp
        go_at_call 18
        refine (H2.out _).mono ?_
        rintro e W28 ⟨v, rfl, x8, rfl, -, hL, hbw⟩
        have HL8 := Lib.hid hL
        clear hL
        go_wp2_with fail
        replace HL12 := Lib.hid (HL12.out.below hbw)
        replace HL4 := Lib.hid (HL4.out.below hbw)
        replace HB := Lib.hid (HB.out.trans (hbw.mono HB.out.size))
        refine hK.out _ _ ?_ (fun hHeld => ?_)
        · exact HS.out _ HB.out
        clear hK K hbw
        (try simp only [Act.put, List.setIfInBounds_toArray, List.set_cons_zero, List.set_cons_succ])
        refine wpAnyH_ready (rs := [15]) (by kernel_rfl) (by simp) ?_
        refine AllReadyH.cons (by simp only [List.getElem?_toArray, List.getElem?_cons_succ, List.getElem?_cons_zero] <;> rfl) (fun K hK => ?_) AllReadyH.nil
        go_simp
        go_at_call 18
        refine (H3.out _).mono ?_
        rintro e W29 ⟨v, rfl, x15, rfl, -, hL, hbw⟩
        have HL15 := Lib.hid hL
        clear hL
        go_wp2_with fail
        replace HL12 := Lib.hid (HL12.out.below hbw)
        replace HL4 := Lib.hid (HL4.out.below hbw)
        replace HL8 := Lib.hid (HL8.out.below hbw)
        replace HB := Lib.hid (HB.out.trans (hbw.mono HB.out.size))
        refine hK.out _ _ ?_ (fun hHeld => ?_)
        · exact HS.out _ HB.out
        clear hK K hbw
        (try simp only [Act.put, List.setIfInBounds_toArray, List.set_cons_zero, List.set_cons_succ])
        refine wpAnyH_ready (rs := [20]) (by kernel_rfl) (by simp) ?_
        refine AllReadyH.cons (by simp only [List.getElem?_toArray, List.getElem?_cons_succ, List.getElem?_cons_zero] <;> rfl) (fun K hK => ?_) AllReadyH.nil
        go_simp
        have hrw := rows6_made HL4.out HL8.out HL12.out HL15.out (HSD.out _ HB.out).1 (HSD.out _ HB.out).2
        have HRW := Lib.hid (HPC.out ▸ hrw)
        refine hK.out _ _ ?_ (fun hHeld => ?_)
        · exact HS.out _ (HB.out.alloc HB.out.size _)
        clear hK K hrw
        (try simp only [Act.put, List.setIfInBounds_toArray, List.set_cons_zero, List.set_cons_succ])
        refine wpAnyH_take (i := 21) (v := ?_) (by simp only [List.getElem?_toArray, List.getElem?_cons_succ, List.getElem?_cons_zero] <;> rfl) (by kernel_rfl) (by kernel_rfl) (by kernel_rfl) (by exact fun _ _ _ h => h) (Or.inl ⟨by rfl, ?_⟩) hHeld ?_
        rotate_left
        · intro w hSw; (try dsimp only at hSw); go_simp; (try with_reducible rfl)
        (try simp only [Act.put, List.setIfInBounds_toArray, List.set_cons_zero, List.set_cons_succ])
        refine wpAnyH_done (by kernel_rfl) ?_ _
        go_wp2_with fail
        go_meet
        exact Lib.hid ⟨rfl, rfl, _, rfl, by simp, HRW.out, HB.out.alloc HB.out.size _⟩
      · skip
        go_simp
        go_at_call 18
        refine (H2.out _).mono ?_
        rintro e W30 ⟨v, rfl, x8, rfl, -, hL, hbw⟩
        have HL8 := Lib.hid hL
        clear hL
        go_wp2_with fail
        replace HL12 := Lib.hid (HL12.out.below hbw)
        replace HB := Lib.hid (HB.out.trans (hbw.mono HB.out.size))
        refine hK.out _ _ ?_ (fun hHeld => ?_)
        · exact HS.out _ HB.out
        clear hK K hbw
        (try simp only [Act.put, List.setIfInBounds_toArray, List.set_cons_zero, List.set_cons_succ])
        refine wpAnyH_ready (rs := [4, 15]) (by kernel_rfl) (by simp) ?_
        refine AllReadyH.cons (by simp only [List.getElem?_toArray, List.getElem?_cons_succ, List.getElem?_cons_zero] <;> rfl) (fun K hK => ?_) (AllReadyH.cons (by simp only [List.getElem?_toArray, List.getElem?_cons_succ, List.getElem?_cons_zero] <;> rfl) (fun K hK => ?_) AllReadyH.nil)
        · skip
          go_simp
          obtain ⟨W31, hWe⟩ : ∃ V, V = W30.alloc (.cells #[.int .u8 69, .int .u8 (4 * h.ma)] 5) := ⟨_, rfl⟩
          obtain ⟨x4, hxe⟩ : ∃ x, x = W30.heap.size := ⟨_, rfl⟩
          have HL4 : Hid (Lies W31 (some ⟨x4, 0, none⟩) [69, 4 * h.ma]) := Lib.hid (by rw [hWe, hxe]; exact lies_lit W30 [69, 4 * h.ma] HB1.out (by simp))
          have hbw : Below W30.heap.size W30 W31 := by rw [hWe]; exact (Below.refl _ _).alloc (Nat.le_refl _) _
          rw [← hWe, ← hxe]
          clear hWe hxe
          replace HL12 := Lib.hid (HL12.out.below hbw)
          replace HL8 := Lib.hid (HL8.out.below hbw)
          replace HB := Lib.hid (HB.out.trans (hbw.mono HB.out.size))
          refine hK.out _ _ ?_ (fun hHeld => ?_)
          · exact HS.out _ HB.out
          clear hK K hbw
          (try simp only [Act.put, List.setIfInBounds_toArray, List.set_cons_zero, List.set_cons_succ])
          refine wpAnyH_ready (rs := [15]) (by kernel_rfl) (by simp) ?_
          refine AllReadyH.cons (by simp only [List.getElem?_toArray, List.getElem?_cons_succ, List.getElem?_cons_zero] <;> rfl) (fun K hK => ?_) AllReadyH.nil
          go_simp
          go_at_call 18
          refine (H3.out _).mono ?_
          rintro e W32 ⟨v, rfl, x15, rfl, -, hL, hbw⟩
          have HL15 := Lib.hid hL
          clear hL
          go_wp2_with fail
          replace HL12 := Lib.hid (HL12.out.below hbw)
          replace HL8 := Lib.hid (HL8.out.below hbw)
          replace HL4 := Lib.hid (HL4.out.below hbw)
          replace HB := Lib.hid (HB.out.trans (hbw.mono HB.out.size))
          refine hK.out _ _ ?_ (fun hHeld => ?_)
          · exact HS.out _ HB.out
          clear hK K hbw
          (try simp only [Act.put, List.setIfInBounds_toArray, List.set_cons_zero, List.set_cons_succ])
          refine wpAnyH_ready (rs := [20]) (by kernel_rfl) (by simp) ?_
          refine AllReadyH.cons (by simp only [List.getElem?_toArray, List.getElem?_cons_succ, List.getElem?_cons_zero] <;> rfl) (fun K hK => ?_) AllReadyH.nil
          go_simp
          have hrw := rows6_made HL4.out HL8.out HL12.out HL15.out (HSD.out _ HB.out).1 (HSD.out _ HB.out).2
          have HRW := Lib.hid (HPC.out ▸ hrw)
          refine hK.out _ _ ?_ (fun hHeld => ?_)
          · exact HS.out _ (HB.out.alloc HB.out.size _)
          clear hK K hrw
          (try simp only [Act.put, List.setIfInBounds_toArray, List.set_cons_zero, List.set_cons_succ])
          refine wpAnyH_take (i := 21) (v := ?_) (by simp only [List.getElem?_toArray, List.getElem?_cons_succ, List.getElem?_cons_zero] <;> rfl) (by kernel_rfl) (by kernel_rfl) (by kernel_rfl) (by exact fun _ _ _ h => h) (Or.inl ⟨by rfl, ?_⟩) hHeld ?_
          rotate_left
          · intro w hSw; (try dsimp only at hSw); go_simp; (try with_reducible rfl)
          (try simp only [Act.put, List.setIfInBounds_toArray, List.set_cons_zero, List.set_cons_succ])
          refine wpAnyH_done (by kernel_rfl) ?_ _
          go_wp2_with fail
          go_meet
          exact Lib.hid ⟨rfl, rfl, _, rfl, by simp, HRW.out, HB.out.alloc HB.out.size _⟩
        · skip
          go_simp
          go_at_call 18
          refine (H3.out _).mono ?_
          rintro e W33 ⟨v, rfl, x15, rfl, -, hL, hbw⟩
          have HL15 := Lib.hid hL
          clear hL
          go_wp2_with fail
          replace HL12 := Lib.hid (HL12.out.below hbw)
          replace HL8 := Lib.hid (HL8.out.below hbw)
          replace HB := Lib.hid (HB.out.trans (hbw.mono HB.out.size))
          refine hK.out _ _ ?_ (fun hHeld => ?_)
          · exact HS.out _ HB.out
          clear hK K hbw
          (try simp only [Act.put, List.setIfInBounds_toArray, List.set_cons_zero, List.set_cons_succ])
          refine wpAnyH_ready (rs := [4]) (by kernel_rfl) (by simp) ?_
          refine AllReadyH.cons (by simp only [List.getElem?_toArray, List.getElem?_cons_succ, List.getElem?_cons_zero] <;> rfl) (fun K hK => ?_) AllReadyH.nil
          go_simp
          obtain ⟨W34, hWe⟩ : ∃ V, V = W33.alloc (.cells #[.int .u8 69, .int .u8 (4 * h.ma)] 5) := ⟨_, rfl⟩
          obtain ⟨x4, hxe⟩ : ∃ x, x = W33.heap.size := ⟨_, rfl⟩
          have HL4 : Hid (Lies W34 (some ⟨x4, 0, none⟩) [69, 4 * h.ma]) := Lib.hid (by rw [hWe, hxe]; exact lies_lit W33 [69, 4 * h.ma] HB1.out (by simp))
          have hbw : Below W33.heap.size W33 W34 := by rw [hWe]; exact (Below.refl _ _).alloc (Nat.le_refl _) _
          rw [← hWe, ← hxe]
          clear hWe hxe
          replace HL12 := Lib.hid (HL12.out.below hbw)
          replace HL8 := Lib.hid (HL8.out.below hbw)
          replace HL15 := Lib.hid (HL15.out.below hbw)
          replace HB := Lib.hid (HB.out.trans (hbw.mono HB.out.size))
          refine hK.out _ _ ?_ (fun hHeld => ?_)
          · exact HS.out _ HB.out
          clear hK K hbw
          (try simp only [Act.put, List.setIfInBounds_toArray, List.set_cons_zero, List.set_cons_succ])
          refine wpAnyH_ready (rs := [20]) (by kernel_rfl) (by simp) ?_
          refine AllReadyH.cons (by simp only [List.getElem?_toArray, List.getElem?_cons_succ, List.getElem?_cons_zero] <;> rfl) (fun K hK => ?_) AllReadyH.nil
          go_simp
          have hrw := rows6_made HL4.out HL8.out HL12.out HL15.out (HSD.out _ HB.out).1 (HSD.out _ HB.out).2
          have HRW := Lib.hid (HPC.out ▸ hrw)
          refine hK.out _ _ ?_ (fun hHeld => ?_)
          · exact HS.out _ (HB.out.alloc HB.out.size _)
          clear hK K hrw
          (try simp only [Act.put, List.setIfInBounds_toArray, List.set_cons_zero, List.set_cons_succ])
          refine wpAnyH_take (i := 21) (v := ?_) (by simp only [List.getElem?_toArray, List.getElem?_cons_succ, List.getElem?_cons_zero] <;> rfl) (by kernel_rfl) (by kernel_rfl) (by kernel_rfl) (by exact fun _ _ _ h => h) (Or.inl ⟨by rfl, ?_⟩) hHeld ?_
          rotate_left
          · intro w hSw; (try dsimp only at hSw); go_simp; (try with_reducible rfl)
          (try simp only [Act.put, List.setIfInBounds_toArray, List.set_cons_zero, List.set_cons_succ])
          refine wpAnyH_done (by kernel_rfl) ?_ _
          go_wp2_with fail
          go_meet
          exact Lib.hid ⟨rfl, rfl, _, rfl, by simp, HRW.out, HB.out.alloc HB.out.size _⟩
  case rest =>
    obtain ⟨rfl, rfl, g, rfl, hg, hrows, hbel⟩ := hcut.out
    have HN := Lib.hid (fun i (hi : i < 6) => pieces_next h c hi)
    have HR0 := Lib.hid (And.intro hrows (And.intro hg hbel))
    have HF : Hid (((h.pieces c).take 6).flatten = h.first c) := Lib.hid rfl
    clear hcut HS HSD H2 H3 HB1 HB3 HP HPC hrows hg hbel e0 e1 e2 hz2
    generalize h.pieces c = ps at *
    go_wp2_with fail
    go_loopg [5, 30] 6 (fun kk bv cv wr => ∃ i : Nat, cv = .int .i64 (i : Int) ∧ i + kk = 6 ∧ Hid (OwnB wc.heap.size wr bv ((ps.take i).flatten) ∧ Below wc.heap.size wc wr))
    case atStart => exact ⟨0, rfl, by omega, Lib.hid ⟨World.ownsRow_nil _ _ _ _, Below.refl _ _⟩⟩
    case round =>
      obtain ⟨i, rfl, hik, HI⟩ := hrel
      cases gk with
      | zero =>
        obtain rfl : i = 6 := by omega
        have HO := Lib.hid (And.intro (own_lower (HF.out ▸ HI.out.1) HR0.out.2.2.size) (HR0.out.2.2.trans (HI.out.2.mono HR0.out.2.2.size)))
        clear HN HI
        go_wp2
        go_ret
        exact ⟨_, rfl, HO.out⟩
      | succ kk =>
        obtain ⟨p, hp, hnext, hlen⟩ := HN.out i (by omega)
        obtain ⟨a, ca, hL⟩ := HR0.out.1 i p hp
        have hcell := (HI.out.2.cell (p := ⟨g, i, none⟩) HR0.out.2.1).trans ca
        have hbw := HI.out.2
        obtain ⟨v', W', hr, q1, q2⟩ := bytes_append HI.out.1 (hL.below hbw) p.length hbw.size (by omega)
        rw [← hnext] at q1
        have HQ := Lib.hid (And.intro q1 (hbw.trans q2))
        generalize p.length = m at *
        have i1 : (i : Int) < 6 := by omega
        clear HN HI hp hnext hlen ca hL hbw q1 q2
        go_wp2_with (at_builtin; refine wpList_append_eq rfl (.tmp 34) (.tmp 35) 25 25 rfl rfl rfl (hr _) ?_)
        go_roundg kk
        case measure => omega
        case rel => exact ⟨i + 1, by go_num, by omega, HQ⟩
end Go.Proofs.Ytmigfemkbdehbaa
