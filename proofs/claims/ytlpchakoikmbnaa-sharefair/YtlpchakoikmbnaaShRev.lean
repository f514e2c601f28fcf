/- slices.Reverse over ints and over fractions of one's own. -/
import Derived.Test.YtlpchakoikmbnaaSh9
namespace Go.Proofs.Ytlpchakoikmbnaa
open Go.RowKit Go.Maps

/-- Numbers that may be turned. -/
def OwnAt (w : World) (g off : Nat) (xs : List Int) : Prop := (∀ j x, xs[j]? = some x → w.cell? ⟨g, off + j, none⟩ = some (.int .i64 x) ∧ w.frozen? ⟨g, off + j, none⟩ = false) ∧ g < w.heap.size
theorem OwnAt.drew {w : World} {g off : Nat} {xs : List Int} (h : OwnAt w g off xs) : OwnAt w.drew g off xs := h
theorem OwnAt.put {w : World} {g off : Nat} {xs : List Int} (h : OwnAt w g off xs) {i : Nat} {x : Int} (hx : xs[i]? = some x) (y : Int) : OwnAt (w.setCell ⟨g, off + i, none⟩ (.int .i64 y)) g off (xs.set i y) ∧ Chg (fun k : Nat => k = g) w (w.setCell ⟨g, off + i, none⟩ (.int .i64 y)) := by
  have hc : Chg (fun k : Nat => k = g) w (w.setCell ⟨g, off + i, none⟩ (.int .i64 y)) := (Chg.refl (fun k : Nat => k = g) w).set (p := ⟨g, off + i, none⟩) (Or.inl rfl) _
  refine ⟨⟨fun j z hz => ⟨?_, ?_⟩, Nat.lt_of_lt_of_le h.2 hc.size⟩, hc⟩
  · rw [List.getElem?_set] at hz
    by_cases e : i = j
    · subst e
      rw [if_pos rfl, if_pos (List.getElem?_eq_some_iff.1 hx).1] at hz
      injection hz with hz
      subst hz
      exact World.cell?_setCell_same _ _ _ (h.1 i x hx).1
    · rw [if_neg e] at hz
      exact (World.cell?_setCell_other _ _ _ _ (by intro e2; simp only [Addr.mk.injEq] at e2; omega)).trans (h.1 j z hz).1
  · rw [World.frozen?_setCell]
    rw [List.getElem?_set] at hz
    by_cases e : i = j
    · subst e
      exact (h.1 i x hx).2
    · rw [if_neg e] at hz
      exact (h.1 j z hz).2
theorem OwnAt.ints {w : World} {g off : Nat} {xs : List Int} (h : OwnAt w g off xs) (hl : xs.length * 8 ≤ 281474976710656) : IntsIn w (some ⟨g, off, none⟩) xs := ⟨fun _ => ⟨g, off, rfl, h.2, fun j x hx => (h.1 j x hx).1⟩, hl⟩
theorem Fifo.own {B : Nat} {w : World} {A : Option Addr} {xs : List Int} {cap : Nat} (h : Fifo B w A xs cap) (h0 : 0 < xs.length) : ∃ g off, A = some ⟨g, off, none⟩ ∧ OwnAt w g off xs ∧ B ≤ g := by
  obtain ⟨g, off, N, F, e, hg, hr, hN, hF⟩ := h.row (by have := h.le; omega)
  refine ⟨g, off, e, ⟨fun j x hx => ⟨?_, hr.frozen _⟩, hr.lt⟩, hg⟩
  have := lt_of_some hx
  have := h.le
  rw [hr.cell (by omega), hF j x hx]
/-- Fractions that may be turned. -/
def OwnFr (w : World) (g off : Nat) (gs : List (Int × Int)) : Prop := (∀ j p, gs[j]? = some p → w.cell? ⟨g, off + j * 2, none⟩ = some (.int .i64 p.1) ∧ w.cell? ⟨g, off + j * 2 + 1, none⟩ = some (.int .i64 p.2) ∧ w.frozen? ⟨g, off + j * 2, none⟩ = false ∧ w.frozen? ⟨g, off + j * 2 + 1, none⟩ = false) ∧ g < w.heap.size
theorem OwnFr.drew {w : World} {g off : Nat} {gs : List (Int × Int)} (h : OwnFr w g off gs) : OwnFr w.drew g off gs := h
theorem OwnFr.put {w : World} {g off : Nat} {gs : List (Int × Int)} (h : OwnFr w g off gs) {i : Nat} {p : Int × Int} (hp : gs[i]? = some p) (q : Int × Int) : OwnFr ((w.setCell ⟨g, off + i * 2, none⟩ (.int .i64 q.1)).setCell ⟨g, off + i * 2 + 1, none⟩ (.int .i64 q.2)) g off (gs.set i q) ∧ Chg (fun k : Nat => k = g) w ((w.setCell ⟨g, off + i * 2, none⟩ (.int .i64 q.1)).setCell ⟨g, off + i * 2 + 1, none⟩ (.int .i64 q.2)) := by
  have hc : Chg (fun k : Nat => k = g) w ((w.setCell ⟨g, off + i * 2, none⟩ (.int .i64 q.1)).setCell ⟨g, off + i * 2 + 1, none⟩ (.int .i64 q.2)) := ((Chg.refl (fun k : Nat => k = g) w).set (p := ⟨g, off + i * 2, none⟩) (Or.inl rfl) _).set (p := ⟨g, off + i * 2 + 1, none⟩) (Or.inl rfl) _
  have s1 := World.cell?_setCell_same w ⟨g, off + i * 2, none⟩ (.int .i64 q.1) (h.1 i p hp).1
  have s2 := World.cell?_setCell_same (w.setCell ⟨g, off + i * 2, none⟩ (.int .i64 q.1)) ⟨g, off + i * 2 + 1, none⟩ (.int .i64 q.2) ((World.cell?_setCell_other _ _ _ _ (by intro e2; simp only [Addr.mk.injEq] at e2; omega)).trans (h.1 i p hp).2.1)
  have o1 : ∀ o, o ≠ off + i * 2 → o ≠ off + i * 2 + 1 → ((w.setCell ⟨g, off + i * 2, none⟩ (.int .i64 q.1)).setCell ⟨g, off + i * 2 + 1, none⟩ (.int .i64 q.2)).cell? ⟨g, o, none⟩ = w.cell? ⟨g, o, none⟩ := fun o h1 h2 =>
    (World.cell?_setCell_other _ _ _ _ (by intro e2; simp only [Addr.mk.injEq] at e2; omega)).trans (World.cell?_setCell_other _ _ _ _ (by intro e2; simp only [Addr.mk.injEq] at e2; omega))
  refine ⟨⟨fun j z hz => ?_, Nat.lt_of_lt_of_le h.2 hc.size⟩, hc⟩
  rw [World.frozen?_setCell, World.frozen?_setCell, World.frozen?_setCell, World.frozen?_setCell]
  rw [List.getElem?_set] at hz
  by_cases e : i = j
  · subst e
    rw [if_pos rfl, if_pos (List.getElem?_eq_some_iff.1 hp).1] at hz
    injection hz with hz
    subst hz
    exact ⟨(World.cell?_setCell_other _ _ _ _ (by intro e2; simp only [Addr.mk.injEq] at e2; omega)).trans s1, s2, (h.1 i p hp).2.2⟩
  · rw [if_neg e] at hz
    have := h.1 j z hz
    exact ⟨(o1 _ (by omega) (by omega)).trans this.1, (o1 _ (by omega) (by omega)).trans this.2.1, this.2.2⟩
theorem OwnFr.frs {w : World} {g off : Nat} {gs : List (Int × Int)} (h : OwnFr w g off gs) : FrsIn w (some ⟨g, off, none⟩) gs := ⟨fun _ => ⟨g, off, rfl, h.2, fun j p hp => ⟨(h.1 j p hp).1, (h.1 j p hp).2.1⟩⟩⟩
theorem FrsIn.own {w : World} {R : Option Addr} {gs : List (Int × Int)} (h : FrsIn w R gs) (h0 : 0 < gs.length) (hf : ∀ k, Ab R k → ∀ j, w.frozen? ⟨k, j, none⟩ = false) : ∃ g off, R = some ⟨g, off, none⟩ ∧ OwnFr w g off gs := by
  obtain ⟨b, off, e, hl, hc⟩ := h.at_ h0
  exact ⟨b, off, e, fun j p hp => ⟨(hc j p hp).1, (hc j p hp).2, hf b ⟨_, e, rfl⟩ _, hf b ⟨_, e, rfl⟩ _⟩, hl⟩

/-- Turned over from both ends, i of them. -/
def HalfI (ps cur : List (Int)) (i : Nat) : Prop := cur.length = ps.length ∧ ∀ k, k < ps.length → cur[k]? = if k < i ∨ ps.length < k + 1 + i then ps[ps.length - 1 - k]? else ps[k]?
theorem HalfI.start (ps : List (Int)) : HalfI ps ps 0 := ⟨rfl, fun k hk => by rw [if_neg (by omega)]⟩
theorem HalfI.end_ {ps cur : List (Int)} {i : Nat} (h : HalfI ps cur i) (hi : i = ps.length / 2) : cur = ps.reverse := by
  apply List.ext_getElem?
  intro k
  rcases Nat.lt_or_ge k ps.length with hk | hk
  · rw [h.2 k hk, List.getElem?_reverse hk]
    split
    · rfl
    · rw [show ps.length - 1 - k = k by omega]
  · rw [List.getElem?_eq_none (by rw [h.1]; exact hk), List.getElem?_eq_none (by simpa using hk)]
theorem HalfI.next {ps cur : List (Int)} {i j : Nat} {pi pj : Int} (h : HalfI ps cur i) (hij : i < j) (hj : j + 1 + i = ps.length) (h1 : cur[i]? = some pi) (h2 : cur[j]? = some pj) : HalfI ps ((cur.set i pj).set j pi) (i + 1) := by
  refine ⟨by simp [h.1], fun k hk => ?_⟩
  have a1 := h.2 i (by omega)
  have a2 := h.2 j (by omega)
  rw [if_neg (by omega)] at a1 a2
  rw [List.getElem?_set]
  by_cases c1 : j = k
  · subst c1
    rw [if_pos rfl, if_pos (by rw [List.length_set, h.1]; omega), if_pos (by omega), show ps.length - 1 - j = i by omega, ← a1, h1]
  · rw [if_neg c1, List.getElem?_set]
    by_cases c2 : i = k
    · subst c2
      rw [if_pos rfl, if_pos (by rw [h.1]; omega), if_pos (by omega), show ps.length - 1 - i = j by omega, ← a2, h2]
    · rw [if_neg c2, h.2 k hk]
      by_cases c3 : k < i ∨ ps.length < k + 1 + i
      · rw [if_pos c3, if_pos (by omega)]
      · rw [if_neg c3, if_neg (by omega)]
set_option maxRecDepth 100000 in
set_option maxHeartbeats 4000000 in
theorem reverse_ints_none (A : Option Addr) (cap : Nat) (w : World) : Calls Try.prog 17 #[.slice A 0 cap] w fun e w' => e = .returned (.tuple #[]) ∧ w' = w := by
  go_enter Try.func17, Try.ntmps17
  go_wp2_with fail
  go_loopg [2, 3] 0 (fun k v2 v3 wr => v2 = .int .i64 0 ∧ v3 = .int .i64 (-1) ∧ wr = w)
  case atStart => exact ⟨rfl, rfl, rfl⟩
  case round =>
    obtain ⟨rfl, rfl, rfl⟩ := hrel
    go_wp2_with fail
    go_end0
    exact ⟨rfl, rfl⟩
set_option maxRecDepth 100000 in
set_option maxHeartbeats 4000000 in
theorem reverse_ints {w : World} {g off n : Nat} {ps : List (Int)} (h : OwnAt w g off ps) (hl : ps.length = n) (hn : n ≤ 140737488355328) (cap : Nat) :
    Calls Try.prog 17 #[.slice (some ⟨g, off, none⟩) n cap] w fun e w' => e = .returned (.tuple #[]) ∧ OwnAt w' g off ps.reverse ∧ Chg (fun k : Nat => k = g) w w' := by
  have HO := Lib.hid h
  have HL := Lib.hid hl
  clear h hl
  have k1 : IntKind.i64.wrap ((n : Int) - 1) = (n : Int) - 1 := wrap_in (by omega) (by omega)
  go_enter Try.func17, Try.ntmps17
  go_wp2_with fail
  go_loopg [2, 3] (n / 2) (fun k v2 v3 wr => ∃ (i : Nat) (cur : List (Int)), v2 = .int .i64 (i : Int) ∧ v3 = .int .i64 ((n : Int) - 1 - (i : Int)) ∧ i + k = n / 2 ∧ Hid (HalfI ps cur i ∧ OwnAt wr g off cur ∧ Chg (fun k : Nat => k = g) w wr))
  case atStart => exact ⟨0, ps, rfl, by go_num, by omega, Lib.hid ⟨HalfI.start ps, HO.out, Chg.refl _ _⟩⟩
  case round =>
    obtain ⟨i, cur, rfl, rfl, hik, HI⟩ := hrel
    cases gk with
    | zero =>
      have HE : Hid (OwnAt wr g off ps.reverse ∧ Chg (fun k : Nat => k = g) w wr) := Lib.hid (by
        have := HI.out.1.end_ (by have := HL.out; omega)
        rw [← this]; exact HI.out.2)
      have hc : ¬ (i : Int) < (n : Int) - 1 - (i : Int) := by omega
      clear HI HO HL
      go_wp2_with fail
      go_end0
      exact ⟨rfl, HE.out⟩
    | succ k =>
        obtain ⟨j, hj⟩ : ∃ j, j + 1 + i = n := ⟨n - 1 - i, by omega⟩
        have hje : (n : Int) - 1 - (i : Int) = (j : Int) := by omega
        rw [hje]
        have hij : i < j := by omega
        have hij' : (i : Int) < (j : Int) := by omega
        have hi' : (i : Int) < (n : Int) := by omega
        have hj' : (j : Int) < (n : Int) := by omega
        have hcl : cur.length = n := by rw [HI.out.1.1, HL.out]
        obtain ⟨pi, hpi⟩ : ∃ p, cur[i]? = some p := ⟨cur[i]'(by omega), List.getElem?_eq_getElem _⟩
        obtain ⟨pj, hpj⟩ : ∃ p, cur[j]? = some p := ⟨cur[j]'(by omega), List.getElem?_eq_getElem _⟩
        have A1 := (HI.out.2.1.1 i pi hpi).1
        have A2 := (HI.out.2.1.1 i pi hpi).2
        have B1 := (HI.out.2.1.1 j pj hpj).1
        have B2 := (HI.out.2.1.1 j pj hpj).2
        have HN : Hid (HalfI ps ((cur.set i pj).set j pi) (i + 1) ∧ OwnAt ((wr.setCell ⟨g, off + i, none⟩ (.int .i64 pj)).setCell ⟨g, off + j, none⟩ (.int .i64 pi)).drew g off ((cur.set i pj).set j pi) ∧ Chg (fun k : Nat => k = g) w ((wr.setCell ⟨g, off + i, none⟩ (.int .i64 pj)).setCell ⟨g, off + j, none⟩ (.int .i64 pi)).drew) := Lib.hid (by
          have h1 := HI.out.2.1.put hpi pj
          have h2 := h1.1.put (show (cur.set i pj)[j]? = some pj by rw [List.getElem?_set_ne (by omega)]; exact hpj) pi
          exact ⟨HI.out.1.next hij (by rw [hj, HL.out]) hpi hpj, h2.1.drew, ((HI.out.2.2.trans h1.2).trans h2.2).drew⟩)
        clear HI HO hpi hpj hcl
        have k2 : IntKind.i64.wrap ((j : Int) - 1) = (j : Int) - 1 := wrap_in (by omega) (by omega)
        have k3 : IntKind.i64.wrap ((i : Int) + 1) = (i : Int) + 1 := wrap_in (by omega) (by omega)
        go_upto_region 3 with fail
        refine wp_region_held_drew (S := (fun _ => True)) (by kernel_rfl) trivial (fun hHeld => ?_)
        refine wpAnyH_take (i := 0) (v := ?_) (by simp only [List.getElem?_toArray, List.getElem?_cons_zero] <;> rfl) (by kernel_rfl) (by kernel_rfl) (by kernel_rfl) (by exact fun _ _ _ h => h) (Or.inl ⟨by rfl, ?_⟩) hHeld ?_
        rotate_left
        · intro w hSw; (try dsimp only at hSw); go_simp; (try with_reducible rfl)
        (try simp only [Act.put, List.setIfInBounds_toArray, List.set_cons_zero, List.set_cons_succ])
        refine wpAnyH_take (i := 1) (v := ?_) (by simp only [List.getElem?_toArray, List.getElem?_cons_succ, List.getElem?_cons_zero] <;> rfl) (by kernel_rfl) (by kernel_rfl) (by kernel_rfl) (by exact fun _ _ _ h => h) (Or.inl ⟨by rfl, ?_⟩) hHeld ?_
        rotate_left
        · intro w hSw; (try dsimp only at hSw); go_simp; (try with_reducible rfl)
        (try simp only [Act.put, List.setIfInBounds_toArray, List.set_cons_zero, List.set_cons_succ])
        refine wpAnyH_take (i := 2) (v := ?_) (by simp only [List.getElem?_toArray, List.getElem?_cons_succ, List.getElem?_cons_zero] <;> rfl) (by kernel_rfl) (by kernel_rfl) (by kernel_rfl) (by exact fun _ _ _ h => h) (Or.inl ⟨by rfl, ?_⟩) hHeld ?_
        rotate_left
        · intro w hSw; (try dsimp only at hSw); go_simp; (try with_reducible rfl)
        (try simp only [Act.put, List.setIfInBounds_toArray, List.set_cons_zero, List.set_cons_succ])
        refine wpAnyH_take (i := 3) (v := ?_) (by simp only [List.getElem?_toArray, List.getElem?_cons_succ, List.getElem?_cons_zero] <;> rfl) (by kernel_rfl) (by kernel_rfl) (by kernel_rfl) (by exact fun _ _ _ h => h) (Or.inl ⟨by rfl, ?_⟩) hHeld ?_
        rotate_left
        · intro w hSw; (try dsimp only at hSw); go_simp; (try with_reducible rfl)
        (try simp only [Act.put, List.setIfInBounds_toArray, List.set_cons_zero, List.set_cons_succ])
        refine wpAnyH_take (i := 4) (v := ?_) (by simp only [List.getElem?_toArray, List.getElem?_cons_succ, List.getElem?_cons_zero] <;> rfl) (by kernel_rfl) (by kernel_rfl) (by kernel_rfl) (by exact fun _ _ _ h => h) (Or.inl ⟨by rfl, ?_⟩) hHeld ?_
        rotate_left
        · intro w hSw; (try dsimp only at hSw); go_simp; (try with_reducible rfl)
        (try simp only [Act.put, List.setIfInBounds_toArray, List.set_cons_zero, List.set_cons_succ])
        refine wpAnyH_take (i := 5) (v := ?_) (by simp only [List.getElem?_toArray, List.getElem?_cons_succ, List.getElem?_cons_zero] <;> rfl) (by kernel_rfl) (by kernel_rfl) (by kernel_rfl) (by exact fun _ _ _ h => h) (Or.inl ⟨by rfl, ?_⟩) hHeld ?_
        rotate_left
        · intro w hSw; (try dsimp only at hSw); go_simp; (try with_reducible rfl)
        (try simp only [Act.put, List.setIfInBounds_toArray, List.set_cons_zero, List.set_cons_succ])
        refine wpAnyH_take (i := 6) (v := ?_) (by simp only [List.getElem?_toArray, List.getElem?_cons_succ, List.getElem?_cons_zero] <;> rfl) (by kernel_rfl) (by kernel_rfl) (by kernel_rfl) (by exact fun _ _ _ h => h) (Or.inl ⟨by rfl, ?_⟩) hHeld ?_
        rotate_left
        · intro w hSw; (try dsimp only at hSw); go_simp; (try with_reducible rfl)
        (try simp only [Act.put, List.setIfInBounds_toArray, List.set_cons_zero, List.set_cons_succ])
        refine wpAnyH_take (i := 8) (v := ?_) (by simp only [List.getElem?_toArray, List.getElem?_cons_succ, List.getElem?_cons_zero] <;> rfl) (by kernel_rfl) (by kernel_rfl) (by kernel_rfl) (by exact fun _ _ _ h => h) (Or.inl ⟨by rfl, ?_⟩) hHeld ?_
        rotate_left
        · intro w hSw; (try dsimp only at hSw); go_simp; (try with_reducible rfl)
        (try simp only [Act.put, List.setIfInBounds_toArray, List.set_cons_zero, List.set_cons_succ])
        refine wpAnyH_take (i := 9) (v := ?_) (by simp only [List.getElem?_toArray, List.getElem?_cons_succ, List.getElem?_cons_zero] <;> rfl) (by kernel_rfl) (by kernel_rfl) (by kernel_rfl) (by exact fun _ _ _ h => h) (Or.inl ⟨by rfl, ?_⟩) hHeld ?_
        rotate_left
        · intro w hSw; (try dsimp only at hSw); go_simp; (try with_reducible rfl)
        (try simp only [Act.put, List.setIfInBounds_toArray, List.set_cons_zero, List.set_cons_succ])
        refine wpAnyH_take (i := 10) (v := ?_) (by simp only [List.getElem?_toArray, List.getElem?_cons_succ, List.getElem?_cons_zero] <;> rfl) (by kernel_rfl) (by kernel_rfl) (by kernel_rfl) (by exact fun _ _ _ h => h) (Or.inl ⟨by rfl, ?_⟩) hHeld ?_
        rotate_left
        · intro w hSw; (try dsimp only at hSw); go_simp; (try with_reducible rfl)
        (try simp only [Act.put, List.setIfInBounds_toArray, List.set_cons_zero, List.set_cons_succ])
        refine wpAnyH_ready (rs := [7, 11]) (by kernel_rfl) (by simp) ?_
        refine AllReadyH.cons (by simp only [List.getElem?_toArray, List.getElem?_cons_succ, List.getElem?_cons_zero] <;> rfl) (fun K hK => ?_) (AllReadyH.cons (by simp only [List.getElem?_toArray, List.getElem?_cons_succ, List.getElem?_cons_zero] <;> rfl) (fun K hK => ?_) AllReadyH.nil)
        · go_simp
          refine hK.out _ _ ?_ (fun hHeld => ?_)
          · trivial
          clear hK K
          (try simp only [Act.put, List.setIfInBounds_toArray, List.set_cons_zero, List.set_cons_succ])
          refine wpAnyH_ready (rs := [11]) (by kernel_rfl) (by simp) ?_
          refine AllReadyH.cons (by simp only [List.getElem?_toArray, List.getElem?_cons_succ, List.getElem?_cons_zero] <;> rfl) (fun K hK => ?_) AllReadyH.nil
          go_simp
          refine hK.out _ _ ?_ (fun hHeld => ?_)
          · trivial
          clear hK K
          (try simp only [Act.put, List.setIfInBounds_toArray, List.set_cons_zero, List.set_cons_succ])
          refine wpAnyH_take (i := 12) (v := ?_) (by simp only [List.getElem?_toArray, List.getElem?_cons_succ, List.getElem?_cons_zero] <;> rfl) (by kernel_rfl) (by kernel_rfl) (by kernel_rfl) (by exact fun _ _ _ h => h) (Or.inl ⟨by rfl, ?_⟩) hHeld ?_
          rotate_left
          · intro w hSw; (try dsimp only at hSw); go_simp; (try with_reducible rfl)
          (try simp only [Act.put, List.setIfInBounds_toArray, List.set_cons_zero, List.set_cons_succ])
          refine wpAnyH_ready (rs := [13]) (by kernel_rfl) (by simp) ?_
          refine AllReadyH.cons (by simp only [List.getElem?_toArray, List.getElem?_cons_succ, List.getElem?_cons_zero] <;> rfl) (fun K hK => ?_) AllReadyH.nil
          go_simp
          refine hK.out _ _ ?_ (fun hHeld => ?_)
          · trivial
          clear hK K
          (try simp only [Act.put, List.setIfInBounds_toArray, List.set_cons_zero, List.set_cons_succ])
          refine wpAnyH_take (i := 14) (v := ?_) (by simp only [List.getElem?_toArray, List.getElem?_cons_succ, List.getElem?_cons_zero] <;> rfl) (by kernel_rfl) (by kernel_rfl) (by kernel_rfl) (by exact fun _ _ _ h => h) (Or.inl ⟨by rfl, ?_⟩) hHeld ?_
          rotate_left
          · intro w hSw; (try dsimp only at hSw); go_simp; (try with_reducible rfl)
          (try simp only [Act.put, List.setIfInBounds_toArray, List.set_cons_zero, List.set_cons_succ])
          refine wpAnyH_ready (rs := [15]) (by kernel_rfl) (by simp) ?_
          refine AllReadyH.cons (by simp only [List.getElem?_toArray, List.getElem?_cons_succ, List.getElem?_cons_zero] <;> rfl) (fun K hK => ?_) AllReadyH.nil
          go_simp
          refine hK.out _ _ ?_ (fun hHeld => ?_)
          · trivial
          clear hK K
          (try simp only [Act.put, List.setIfInBounds_toArray, List.set_cons_zero, List.set_cons_succ])
          refine wpAnyH_done (by kernel_rfl) ?_ _
          clear A1 A2 B1 B2
          go_wp2_with fail
          go_roundg k
          case measure => omega
          case rel => exact ⟨i + 1, _, by go_num, by go_num, by omega, HN⟩
        · go_simp
          refine hK.out _ _ ?_ (fun hHeld => ?_)
          · trivial
          clear hK K
          (try simp only [Act.put, List.setIfInBounds_toArray, List.set_cons_zero, List.set_cons_succ])
          refine wpAnyH_ready (rs := [7]) (by kernel_rfl) (by simp) ?_
          refine AllReadyH.cons (by simp only [List.getElem?_toArray, List.getElem?_cons_succ, List.getElem?_cons_zero] <;> rfl) (fun K hK => ?_) AllReadyH.nil
          go_simp
          refine hK.out _ _ ?_ (fun hHeld => ?_)
          · trivial
          clear hK K
          (try simp only [Act.put, List.setIfInBounds_toArray, List.set_cons_zero, List.set_cons_succ])
          refine wpAnyH_take (i := 12) (v := ?_) (by simp only [List.getElem?_toArray, List.getElem?_cons_succ, List.getElem?_cons_zero] <;> rfl) (by kernel_rfl) (by kernel_rfl) (by kernel_rfl) (by exact fun _ _ _ h => h) (Or.inl ⟨by rfl, ?_⟩) hHeld ?_
          rotate_left
          · intro w hSw; (try dsimp only at hSw); go_simp; (try with_reducible rfl)
          (try simp only [Act.put, List.setIfInBounds_toArray, List.set_cons_zero, List.set_cons_succ])
          refine wpAnyH_ready (rs := [13]) (by kernel_rfl) (by simp) ?_
          refine AllReadyH.cons (by simp only [List.getElem?_toArray, List.getElem?_cons_succ, List.getElem?_cons_zero] <;> rfl) (fun K hK => ?_) AllReadyH.nil
          go_simp
          refine hK.out _ _ ?_ (fun hHeld => ?_)
          · trivial
          clear hK K
          (try simp only [Act.put, List.setIfInBounds_toArray, List.set_cons_zero, List.set_cons_succ])
          refine wpAnyH_take (i := 14) (v := ?_) (by simp only [List.getElem?_toArray, List.getElem?_cons_succ, List.getElem?_cons_zero] <;> rfl) (by kernel_rfl) (by kernel_rfl) (by kernel_rfl) (by exact fun _ _ _ h => h) (Or.inl ⟨by rfl, ?_⟩) hHeld ?_
          rotate_left
          · intro w hSw; (try dsimp only at hSw); go_simp; (try with_reducible rfl)
          (try simp only [Act.put, List.setIfInBounds_toArray, List.set_cons_zero, List.set_cons_succ])
          refine wpAnyH_ready (rs := [15]) (by kernel_rfl) (by simp) ?_
          refine AllReadyH.cons (by simp only [List.getElem?_toArray, List.getElem?_cons_succ, List.getElem?_cons_zero] <;> rfl) (fun K hK => ?_) AllReadyH.nil
          go_simp
          refine hK.out _ _ ?_ (fun hHeld => ?_)
          · trivial
          clear hK K
          (try simp only [Act.put, List.setIfInBounds_toArray, List.set_cons_zero, List.set_cons_succ])
          refine wpAnyH_done (by kernel_rfl) ?_ _
          clear A1 A2 B1 B2
          go_wp2_with fail
          go_roundg k
          case measure => omega
          case rel => exact ⟨i + 1, _, by go_num, by go_num, by omega, HN⟩

/-- Turned over from both ends, i of them. -/
def HalfF (ps cur : List (Int × Int)) (i : Nat) : Prop := cur.length = ps.length ∧ ∀ k, k < ps.length → cur[k]? = if k < i ∨ ps.length < k + 1 + i then ps[ps.length - 1 - k]? else ps[k]?
theorem HalfF.start (ps : List (Int × Int)) : HalfF ps ps 0 := ⟨rfl, fun k hk => by rw [if_neg (by omega)]⟩
theorem HalfF.end_ {ps cur : List (Int × Int)} {i : Nat} (h : HalfF ps cur i) (hi : i = ps.length / 2) : cur = ps.reverse := by
  apply List.ext_getElem?
  intro k
  rcases Nat.lt_or_ge k ps.length with hk | hk
  · rw [h.2 k hk, List.getElem?_reverse hk]
    split
    · rfl
    · rw [show ps.length - 1 - k = k by omega]
  · rw [List.getElem?_eq_none (by rw [h.1]; exact hk), List.getElem?_eq_none (by simpa using hk)]
theorem HalfF.next {ps cur : List (Int × Int)} {i j : Nat} {pi pj : Int × Int} (h : HalfF ps cur i) (hij : i < j) (hj : j + 1 + i = ps.length) (h1 : cur[i]? = some pi) (h2 : cur[j]? = some pj) : HalfF ps ((cur.set i pj).set j pi) (i + 1) := by
  refine ⟨by simp [h.1], fun k hk => ?_⟩
  have a1 := h.2 i (by omega)
  have a2 := h.2 j (by omega)
  rw [if_neg (by omega)] at a1 a2
  rw [List.getElem?_set]
  by_cases c1 : j = k
  · subst c1
    rw [if_pos rfl, if_pos (by rw [List.length_set, h.1]; omega), if_pos (by omega), show ps.length - 1 - j = i by omega, ← a1, h1]
  · rw [if_neg c1, List.getElem?_set]
    by_cases c2 : i = k
    · subst c2
      rw [if_pos rfl, if_pos (by rw [h.1]; omega), if_pos (by omega), show ps.length - 1 - i = j by omega, ← a2, h2]
    · rw [if_neg c2, h.2 k hk]
      by_cases c3 : k < i ∨ ps.length < k + 1 + i
      · rw [if_pos c3, if_pos (by omega)]
      · rw [if_neg c3, if_neg (by omega)]
set_option maxRecDepth 100000 in
set_option maxHeartbeats 4000000 in
theorem reverse_frs_none (A : Option Addr) (cap : Nat) (w : World) : Calls Try.prog 18 #[.slice A 0 cap] w fun e w' => e = .returned (.tuple #[]) ∧ w' = w := by
  go_enter Try.func18, Try.ntmps18
  go_wp2_with fail
  go_loopg [2, 3] 0 (fun k v2 v3 wr => v2 = .int .i64 0 ∧ v3 = .int .i64 (-1) ∧ wr = w)
  case atStart => exact ⟨rfl, rfl, rfl⟩
  case round =>
    obtain ⟨rfl, rfl, rfl⟩ := hrel
    go_wp2_with fail
    go_end0
    exact ⟨rfl, rfl⟩
set_option maxRecDepth 100000 in
set_option maxHeartbeats 4000000 in
theorem reverse_frs {w : World} {g off n : Nat} {ps : List (Int × Int)} (h : OwnFr w g off ps) (hl : ps.length = n) (hn : n ≤ 140737488355328) (cap : Nat) :
    Calls Try.prog 18 #[.slice (some ⟨g, off, none⟩) n cap] w fun e w' => e = .returned (.tuple #[]) ∧ OwnFr w' g off ps.reverse ∧ Chg (fun k : Nat => k = g) w w' := by
  have HO := Lib.hid h
  have HL := Lib.hid hl
  clear h hl
  have k1 : IntKind.i64.wrap ((n : Int) - 1) = (n : Int) - 1 := wrap_in (by omega) (by omega)
  go_enter Try.func18, Try.ntmps18
  go_wp2_with fail
  go_loopg [2, 3] (n / 2) (fun k v2 v3 wr => ∃ (i : Nat) (cur : List (Int × Int)), v2 = .int .i64 (i : Int) ∧ v3 = .int .i64 ((n : Int) - 1 - (i : Int)) ∧ i + k = n / 2 ∧ Hid (HalfF ps cur i ∧ OwnFr wr g off cur ∧ Chg (fun k : Nat => k = g) w wr))
  case atStart => exact ⟨0, ps, rfl, by go_num, by omega, Lib.hid ⟨HalfF.start ps, HO.out, Chg.refl _ _⟩⟩
  case round =>
    obtain ⟨i, cur, rfl, rfl, hik, HI⟩ := hrel
    cases gk with
    | zero =>
      have HE : Hid (OwnFr wr g off ps.reverse ∧ Chg (fun k : Nat => k = g) w wr) := Lib.hid (by
        have := HI.out.1.end_ (by have := HL.out; omega)
        rw [← this]; exact HI.out.2)
      have hc : ¬ (i : Int) < (n : Int) - 1 - (i : Int) := by omega
      clear HI HO HL
      go_wp2_with fail
      go_end0
      exact ⟨rfl, HE.out⟩
    | succ k =>
        obtain ⟨j, hj⟩ : ∃ j, j + 1 + i = n := ⟨n - 1 - i, by omega⟩
        have hje : (n : Int) - 1 - (i : Int) = (j : Int) := by omega
        rw [hje]
        have hij : i < j := by omega
        have hij' : (i : Int) < (j : Int) := by omega
        have hi' : (i : Int) < (n : Int) := by omega
        have hj' : (j : Int) < (n : Int) := by omega
        have hcl : cur.length = n := by rw [HI.out.1.1, HL.out]
        obtain ⟨pi, hpi⟩ : ∃ p, cur[i]? = some p := ⟨cur[i]'(by omega), List.getElem?_eq_getElem _⟩
        obtain ⟨pj, hpj⟩ : ∃ p, cur[j]? = some p := ⟨cur[j]'(by omega), List.getElem?_eq_getElem _⟩
        obtain ⟨A1, A2, A3, A4⟩ := HI.out.2.1.1 i pi hpi
        obtain ⟨B1, B2, B3, B4⟩ := HI.out.2.1.1 j pj hpj
        have HN : Hid (HalfF ps ((cur.set i pj).set j pi) (i + 1) ∧ OwnFr ((((wr.setCell ⟨g, off + i * 2, none⟩ (.int .i64 pj.1)).setCell ⟨g, off + i * 2 + 1, none⟩ (.int .i64 pj.2)).setCell ⟨g, off + j * 2, none⟩ (.int .i64 pi.1)).setCell ⟨g, off + j * 2 + 1, none⟩ (.int .i64 pi.2)).drew g off ((cur.set i pj).set j pi) ∧ Chg (fun k : Nat => k = g) w ((((wr.setCell ⟨g, off + i * 2, none⟩ (.int .i64 pj.1)).setCell ⟨g, off + i * 2 + 1, none⟩ (.int .i64 pj.2)).setCell ⟨g, off + j * 2, none⟩ (.int .i64 pi.1)).setCell ⟨g, off + j * 2 + 1, none⟩ (.int .i64 pi.2)).drew) := Lib.hid (by
          have h1 := HI.out.2.1.put hpi pj
          have h2 := h1.1.put (show (cur.set i pj)[j]? = some pj by rw [List.getElem?_set_ne (by omega)]; exact hpj) pi
          exact ⟨HI.out.1.next hij (by rw [hj, HL.out]) hpi hpj, h2.1.drew, ((HI.out.2.2.trans h1.2).trans h2.2).drew⟩)
        clear HI HO hpi hpj hcl
        have k2 : IntKind.i64.wrap ((j : Int) - 1) = (j : Int) - 1 := wrap_in (by omega) (by omega)
        have k3 : IntKind.i64.wrap ((i : Int) + 1) = (i : Int) + 1 := wrap_in (by omega) (by omega)
        go_upto_region 3 with fail
        refine wp_region_held_drew (S := (fun _ => True)) (by kernel_rfl) trivial (fun hHeld => ?_)
        refine wpAnyH_take (i := 0) (v := ?_) (by simp only [List.getElem?_toArray, List.getElem?_cons_zero] <;> rfl) (by kernel_rfl) (by kernel_rfl) (by kernel_rfl) (by exact fun _ _ _ h => h) (Or.inl ⟨by rfl, ?_⟩) hHeld ?_
        rotate_left
        · intro w hSw; (try dsimp only at hSw); go_simp; (try with_reducible rfl)
        (try simp only [Act.put, List.setIfInBounds_toArray, List.set_cons_zero, List.set_cons_succ])
        refine wpAnyH_take (i := 1) (v := ?_) (by simp only [List.getElem?_toArray, List.getElem?_cons_succ, List.getElem?_cons_zero] <;> rfl) (by kernel_rfl) (by kernel_rfl) (by kernel_rfl) (by exact fun _ _ _ h => h) (Or.inl ⟨by rfl, ?_⟩) hHeld ?_
        rotate_left
        · intro w hSw; (try dsimp only at hSw); go_simp; (try with_reducible rfl)
        (try simp only [Act.put, List.setIfInBounds_toArray, List.set_cons_zero, List.set_cons_succ])
        refine wpAnyH_take (i := 2) (v := ?_) (by simp only [List.getElem?_toArray, List.getElem?_cons_succ, List.getElem?_cons_zero] <;> rfl) (by kernel_rfl) (by kernel_rfl) (by kernel_rfl) (by exact fun _ _ _ h => h) (Or.inl ⟨by rfl, ?_⟩) hHeld ?_
        rotate_left
        · intro w hSw; (try dsimp only at hSw); go_simp; (try with_reducible rfl)
        (try simp only [Act.put, List.setIfInBounds_toArray, List.set_cons_zero, List.set_cons_succ])
        refine wpAnyH_take (i := 3) (v := ?_) (by simp only [List.getElem?_toArray, List.getElem?_cons_succ, List.getElem?_cons_zero] <;> rfl) (by kernel_rfl) (by kernel_rfl) (by kernel_rfl) (by exact fun _ _ _ h => h) (Or.inl ⟨by rfl, ?_⟩) hHeld ?_
        rotate_left
        · intro w hSw; (try dsimp only at hSw); go_simp; (try with_reducible rfl)
        (try simp only [Act.put, List.setIfInBounds_toArray, List.set_cons_zero, List.set_cons_succ])
        refine wpAnyH_take (i := 4) (v := ?_) (by simp only [List.getElem?_toArray, List.getElem?_cons_succ, List.getElem?_cons_zero] <;> rfl) (by kernel_rfl) (by kernel_rfl) (by kernel_rfl) (by exact fun _ _ _ h => h) (Or.inl ⟨by rfl, ?_⟩) hHeld ?_
        rotate_left
        · intro w hSw; (try dsimp only at hSw); go_simp; (try with_reducible rfl)
        (try simp only [Act.put, List.setIfInBounds_toArray, List.set_cons_zero, List.set_cons_succ])
        refine wpAnyH_take (i := 5) (v := ?_) (by simp only [List.getElem?_toArray, List.getElem?_cons_succ, List.getElem?_cons_zero] <;> rfl) (by kernel_rfl) (by kernel_rfl) (by kernel_rfl) (by exact fun _ _ _ h => h) (Or.inl ⟨by rfl, ?_⟩) hHeld ?_
        rotate_left
        · intro w hSw; (try dsimp only at hSw); go_simp; (try with_reducible rfl)
        (try simp only [Act.put, List.setIfInBounds_toArray, List.set_cons_zero, List.set_cons_succ])
        refine wpAnyH_take (i := 6) (v := ?_) (by simp only [List.getElem?_toArray, List.getElem?_cons_succ, List.getElem?_cons_zero] <;> rfl) (by kernel_rfl) (by kernel_rfl) (by kernel_rfl) (by exact fun _ _ _ h => h) (Or.inl ⟨by rfl, ?_⟩) hHeld ?_
        rotate_left
        · intro w hSw; (try dsimp only at hSw); go_simp; (try with_reducible rfl)
        (try simp only [Act.put, List.setIfInBounds_toArray, List.set_cons_zero, List.set_cons_succ])
        refine wpAnyH_take (i := 8) (v := ?_) (by simp only [List.getElem?_toArray, List.getElem?_cons_succ, List.getElem?_cons_zero] <;> rfl) (by kernel_rfl) (by kernel_rfl) (by kernel_rfl) (by exact fun _ _ _ h => h) (Or.inl ⟨by rfl, ?_⟩) hHeld ?_
        rotate_left
        · intro w hSw; (try dsimp only at hSw); go_simp; (try with_reducible rfl)
        (try simp only [Act.put, List.setIfInBounds_toArray, List.set_cons_zero, List.set_cons_succ])
        refine wpAnyH_take (i := 9) (v := ?_) (by simp only [List.getElem?_toArray, List.getElem?_cons_succ, List.getElem?_cons_zero] <;> rfl) (by kernel_rfl) (by kernel_rfl) (by kernel_rfl) (by exact fun _ _ _ h => h) (Or.inl ⟨by rfl, ?_⟩) hHeld ?_
        rotate_left
        · intro w hSw; (try dsimp only at hSw); go_simp; (try with_reducible rfl)
        (try simp only [Act.put, List.setIfInBounds_toArray, List.set_cons_zero, List.set_cons_succ])
        refine wpAnyH_take (i := 10) (v := ?_) (by simp only [List.getElem?_toArray, List.getElem?_cons_succ, List.getElem?_cons_zero] <;> rfl) (by kernel_rfl) (by kernel_rfl) (by kernel_rfl) (by exact fun _ _ _ h => h) (Or.inl ⟨by rfl, ?_⟩) hHeld ?_
        rotate_left
        · intro w hSw; (try dsimp only at hSw); go_simp; (try with_reducible rfl)
        (try simp only [Act.put, List.setIfInBounds_toArray, List.set_cons_zero, List.set_cons_succ])
        refine wpAnyH_ready (rs := [7, 11]) (by kernel_rfl) (by simp) ?_
        refine AllReadyH.cons (by simp only [List.getElem?_toArray, List.getElem?_cons_succ, List.getElem?_cons_zero] <;> rfl) (fun K hK => ?_) (AllReadyH.cons (by simp only [List.getElem?_toArray, List.getElem?_cons_succ, List.getElem?_cons_zero] <;> rfl) (fun K hK => ?_) AllReadyH.nil)
        · go_simp
          refine hK.out _ _ ?_ (fun hHeld => ?_)
          · trivial
          clear hK K
          (try simp only [Act.put, List.setIfInBounds_toArray, List.set_cons_zero, List.set_cons_succ])
          refine wpAnyH_ready (rs := [11]) (by kernel_rfl) (by simp) ?_
          refine AllReadyH.cons (by simp only [List.getElem?_toArray, List.getElem?_cons_succ, List.getElem?_cons_zero] <;> rfl) (fun K hK => ?_) AllReadyH.nil
          go_simp
          refine hK.out _ _ ?_ (fun hHeld => ?_)
          · trivial
          clear hK K
          (try simp only [Act.put, List.setIfInBounds_toArray, List.set_cons_zero, List.set_cons_succ])
          refine wpAnyH_take (i := 12) (v := ?_) (by simp only [List.getElem?_toArray, List.getElem?_cons_succ, List.getElem?_cons_zero] <;> rfl) (by kernel_rfl) (by kernel_rfl) (by kernel_rfl) (by exact fun _ _ _ h => h) (Or.inl ⟨by rfl, ?_⟩) hHeld ?_
          rotate_left
          · intro w hSw; (try dsimp only at hSw); go_simp; (try with_reducible rfl)
          (try simp only [Act.put, List.setIfInBounds_toArray, List.set_cons_zero, List.set_cons_succ])
          refine wpAnyH_ready (rs := [13]) (by kernel_rfl) (by simp) ?_
          refine AllReadyH.cons (by simp only [List.getElem?_toArray, List.getElem?_cons_succ, List.getElem?_cons_zero] <;> rfl) (fun K hK => ?_) AllReadyH.nil
          go_simp
          refine hK.out _ _ ?_ (fun hHeld => ?_)
          · trivial
          clear hK K
          (try simp only [Act.put, List.setIfInBounds_toArray, List.set_cons_zero, List.set_cons_succ])
          refine wpAnyH_take (i := 14) (v := ?_) (by simp only [List.getElem?_toArray, List.getElem?_cons_succ, List.getElem?_cons_zero] <;> rfl) (by kernel_rfl) (by kernel_rfl) (by kernel_rfl) (by exact fun _ _ _ h => h) (Or.inl ⟨by rfl, ?_⟩) hHeld ?_
          rotate_left
          · intro w hSw; (try dsimp only at hSw); go_simp; (try with_reducible rfl)
          (try simp only [Act.put, List.setIfInBounds_toArray, List.set_cons_zero, List.set_cons_succ])
          refine wpAnyH_ready (rs := [15]) (by kernel_rfl) (by simp) ?_
          refine AllReadyH.cons (by simp only [List.getElem?_toArray, List.getElem?_cons_succ, List.getElem?_cons_zero] <;> rfl) (fun K hK => ?_) AllReadyH.nil
          go_simp
          refine hK.out _ _ ?_ (fun hHeld => ?_)
          · trivial
          clear hK K
          (try simp only [Act.put, List.setIfInBounds_toArray, List.set_cons_zero, List.set_cons_succ])
          refine wpAnyH_done (by kernel_rfl) ?_ _
          clear A1 A2 A3 A4 B1 B2 B3 B4
          go_wp2_with fail
          go_roundg k
          case measure => omega
          case rel => exact ⟨i + 1, _, by go_num, by go_num, by omega, HN⟩
        · go_simp
          refine hK.out _ _ ?_ (fun hHeld => ?_)
          · trivial
          clear hK K
          (try simp only [Act.put, List.setIfInBounds_toArray, List.set_cons_zero, List.set_cons_succ])
          refine wpAnyH_ready (rs := [7]) (by kernel_rfl) (by simp) ?_
          refine AllReadyH.cons (by simp only [List.getElem?_toArray, List.getElem?_cons_succ, List.getElem?_cons_zero] <;> rfl) (fun K hK => ?_) AllReadyH.nil
          go_simp
          refine hK.out _ _ ?_ (fun hHeld => ?_)
          · trivial
          clear hK K
          (try simp only [Act.put, List.setIfInBounds_toArray, List.set_cons_zero, List.set_cons_succ])
          refine wpAnyH_take (i := 12) (v := ?_) (by simp only [List.getElem?_toArray, List.getElem?_cons_succ, List.getElem?_cons_zero] <;> rfl) (by kernel_rfl) (by kernel_rfl) (by kernel_rfl) (by exact fun _ _ _ h => h) (Or.inl ⟨by rfl, ?_⟩) hHeld ?_
          rotate_left
          · intro w hSw; (try dsimp only at hSw); go_simp; (try with_reducible rfl)
          (try simp only [Act.put, List.setIfInBounds_toArray, List.set_cons_zero, List.set_cons_succ])
          refine wpAnyH_ready (rs := [13]) (by kernel_rfl) (by simp) ?_
          refine AllReadyH.cons (by simp only [List.getElem?_toArray, List.getElem?_cons_succ, List.getElem?_cons_zero] <;> rfl) (fun K hK => ?_) AllReadyH.nil
          go_simp
          refine hK.out _ _ ?_ (fun hHeld => ?_)
          · trivial
          clear hK K
          (try simp only [Act.put, List.setIfInBounds_toArray, List.set_cons_zero, List.set_cons_succ])
          refine wpAnyH_take (i := 14) (v := ?_) (by simp only [List.getElem?_toArray, List.getElem?_cons_succ, List.getElem?_cons_zero] <;> rfl) (by kernel_rfl) (by kernel_rfl) (by kernel_rfl) (by exact fun _ _ _ h => h) (Or.inl ⟨by rfl, ?_⟩) hHeld ?_
          rotate_left
          · intro w hSw; (try dsimp only at hSw); go_simp; (try with_reducible rfl)
          (try simp only [Act.put, List.setIfInBounds_toArray, List.set_cons_zero, List.set_cons_succ])
          refine wpAnyH_ready (rs := [15]) (by kernel_rfl) (by simp) ?_
          refine AllReadyH.cons (by simp only [List.getElem?_toArray, List.getElem?_cons_succ, List.getElem?_cons_zero] <;> rfl) (fun K hK => ?_) AllReadyH.nil
          go_simp
          refine hK.out _ _ ?_ (fun hHeld => ?_)
          · trivial
          clear hK K
          (try simp only [Act.put, List.setIfInBounds_toArray, List.set_cons_zero, List.set_cons_succ])
          refine wpAnyH_done (by kernel_rfl) ?_ _
          clear A1 A2 A3 A4 B1 B2 B3 B4
          go_wp2_with fail
          go_roundg k
          case measure => omega
          case rel => exact ⟨i + 1, _, by go_num, by go_num, by omega, HN⟩
end Go.Proofs.Ytlpchakoikmbnaa
