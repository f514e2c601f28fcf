/- slices.Reverse over prefixes of the call's own. -/
import Derived.Test.YtcadjgmglaimdaaTr10
namespace Go.Proofs.Ytcadjgmglaimdaa
open Go.RowKit Go.Maps

theorem pf_set1 {B : Nat} {w : World} {g cap : Nat} {ps : List Pf} (h : OwnPfs B w (.slice (some ⟨g, 0, none⟩) ps.length cap) ps) {i : Nat} {p : Pf} (hp : ps[i]? = some p) (c : Nat) (hc : c < 6) (u : Value) (q : Pf) (hq : q.cells = p.cells.set c u) :
    OwnPfs B (w.setCell ⟨g, i * 6 + c, none⟩ u) (.slice (some ⟨g, 0, none⟩) ps.length cap) (ps.set i q) := by
  unfold OwnPfs at h ⊢
  have := (World.ownsRow.stored h (i * 6 + c) u).1
  unfold pfCells at this ⊢
  rw [flat_set pf_len hp c u hc hq] at this
  rw [List.length_set]
  exact this
theorem set_at {ps : List Pf} {i : Nat} {p : Pf} (hp : ps[i]? = some p) (q : Pf) : (ps.set i q)[i]? = some q := by
  rw [List.getElem?_set_self (List.getElem?_eq_some_iff.1 hp).1]
theorem pf_set {B : Nat} {w : World} {g cap : Nat} {ps : List Pf} (h : OwnPfs B w (.slice (some ⟨g, 0, none⟩) ps.length cap) ps) {i : Nat} {p : Pf} (hp : ps[i]? = some p) (q : Pf) :
    OwnPfs B ((((((w.setCell ⟨g, i * 6, none⟩ (.int .u8 q.ad.a0)).setCell ⟨g, i * 6 + 1, none⟩ (.int .u8 q.ad.a1)).setCell ⟨g, i * 6 + 2, none⟩ (.int .u8 q.ad.a2)).setCell ⟨g, i * 6 + 3, none⟩ (.int .u8 q.ad.a3)).setCell ⟨g, i * 6 + 4, none⟩ (.int .i64 q.bits)).setCell ⟨g, i * 6 + 5, none⟩ (.int .i64 q.led)) (.slice (some ⟨g, 0, none⟩) ps.length cap) (ps.set i q) := by
  have h0 := pf_set1 h hp 0 (by decide) (.int .u8 q.ad.a0) ⟨⟨q.ad.a0, p.ad.a1, p.ad.a2, p.ad.a3⟩, p.bits, p.led⟩ rfl
  rw [← List.length_set (i := i) (a := ⟨⟨q.ad.a0, p.ad.a1, p.ad.a2, p.ad.a3⟩, p.bits, p.led⟩)] at h0
  have h1 := pf_set1 h0 (set_at hp _) 1 (by decide) (.int .u8 q.ad.a1) ⟨⟨q.ad.a0, q.ad.a1, p.ad.a2, p.ad.a3⟩, p.bits, p.led⟩ rfl
  rw [List.set_set, List.length_set, ← List.length_set (i := i) (a := ⟨⟨q.ad.a0, q.ad.a1, p.ad.a2, p.ad.a3⟩, p.bits, p.led⟩)] at h1
  have h2 := pf_set1 h1 (set_at hp _) 2 (by decide) (.int .u8 q.ad.a2) ⟨⟨q.ad.a0, q.ad.a1, q.ad.a2, p.ad.a3⟩, p.bits, p.led⟩ rfl
  rw [List.set_set, List.length_set, ← List.length_set (i := i) (a := ⟨⟨q.ad.a0, q.ad.a1, q.ad.a2, p.ad.a3⟩, p.bits, p.led⟩)] at h2
  have h3 := pf_set1 h2 (set_at hp _) 3 (by decide) (.int .u8 q.ad.a3) ⟨q.ad, p.bits, p.led⟩ rfl
  rw [List.set_set, List.length_set, ← List.length_set (i := i) (a := ⟨q.ad, p.bits, p.led⟩)] at h3
  have h4 := pf_set1 h3 (set_at hp _) 4 (by decide) (.int .i64 q.bits) ⟨q.ad, q.bits, p.led⟩ rfl
  rw [List.set_set, List.length_set, ← List.length_set (i := i) (a := ⟨q.ad, q.bits, p.led⟩)] at h4
  have h5 := pf_set1 h4 (set_at hp _) 5 (by decide) (.int .i64 q.led) q rfl
  rw [List.set_set, List.length_set] at h5
  exact h5
theorem below_set6 {B : Nat} {a w : World} (h : Below B a w) {g : Nat} (hg : B ≤ g) (o : Nat) (q : Pf) : Below B a ((((((w.setCell ⟨g, o, none⟩ (.int .u8 q.ad.a0)).setCell ⟨g, o + 1, none⟩ (.int .u8 q.ad.a1)).setCell ⟨g, o + 2, none⟩ (.int .u8 q.ad.a2)).setCell ⟨g, o + 3, none⟩ (.int .u8 q.ad.a3)).setCell ⟨g, o + 4, none⟩ (.int .i64 q.bits)).setCell ⟨g, o + 5, none⟩ (.int .i64 q.led)) :=
  ((((((h.setCell (p := ⟨g, o, none⟩) hg _).setCell (p := ⟨g, o + 1, none⟩) hg _).setCell (p := ⟨g, o + 2, none⟩) hg _).setCell (p := ⟨g, o + 3, none⟩) hg _).setCell (p := ⟨g, o + 4, none⟩) hg _).setCell (p := ⟨g, o + 5, none⟩) hg _)
theorem own_cells {B : Nat} {w : World} {g cap n : Nat} {ps : List Pf} (h : OwnPfs B w (.slice (some ⟨g, 0, none⟩) n cap) ps) (hn : ps.length = n) {j : Nat} {p : Pf} (hp : ps[j]? = some p) :
    (w.cell? ⟨g, j * 6, none⟩ = some (.int .u8 p.ad.a0) ∧ w.cell? ⟨g, j * 6 + 1, none⟩ = some (.int .u8 p.ad.a1) ∧ w.cell? ⟨g, j * 6 + 2, none⟩ = some (.int .u8 p.ad.a2) ∧ w.cell? ⟨g, j * 6 + 3, none⟩ = some (.int .u8 p.ad.a3) ∧ w.cell? ⟨g, j * 6 + 4, none⟩ = some (.int .i64 p.bits) ∧ w.cell? ⟨g, j * 6 + 5, none⟩ = some (.int .i64 p.led)) ∧ (w.frozen? ⟨g, j * 6, none⟩ = false ∧ w.frozen? ⟨g, j * 6 + 1, none⟩ = false ∧ w.frozen? ⟨g, j * 6 + 2, none⟩ = false ∧ w.frozen? ⟨g, j * 6 + 3, none⟩ = false ∧ w.frozen? ⟨g, j * 6 + 4, none⟩ = false ∧ w.frozen? ⟨g, j * 6 + 5, none⟩ = false) := by
  subst hn
  obtain ⟨cur, hg, _, _⟩ := row_at h
  have hj := (List.getElem?_eq_some_iff.1 hp).1
  have key : ∀ i, i < 6 → w.cell? ⟨g, j * 6 + i, none⟩ = p.cells[i]? := fun i hi => by
    rw [World.ownsRow.cellAt h _ (by omega)]
    exact flat_at pf_len hp i hi
  exact ⟨⟨key 0 (by omega), key 1 (by omega), key 2 (by omega), key 3 (by omega), key 4 (by omega), key 5 (by omega)⟩, frozen_of_row w g _ _ _ hg, frozen_of_row w g _ _ _ hg, frozen_of_row w g _ _ _ hg, frozen_of_row w g _ _ _ hg, frozen_of_row w g _ _ _ hg, frozen_of_row w g _ _ _ hg⟩

/-- Turned over from both ends, i of them. -/
def Half (ps cur : List Pf) (i : Nat) : Prop := cur.length = ps.length ∧ ∀ k, k < ps.length → cur[k]? = if k < i ∨ ps.length < k + 1 + i then ps[ps.length - 1 - k]? else ps[k]?
theorem half_start (ps : List Pf) : Half ps ps 0 := ⟨rfl, fun k hk => by rw [if_neg (by omega)]⟩
theorem half_end {ps cur : List Pf} {i : Nat} (h : Half ps cur i) (hi : i = ps.length / 2) : cur = ps.reverse := by
  apply List.ext_getElem?
  intro k
  rcases Nat.lt_or_ge k ps.length with hk | hk
  · rw [h.2 k hk, List.getElem?_reverse hk]
    split
    · rfl
    · rw [show ps.length - 1 - k = k by omega]
  · rw [List.getElem?_eq_none (by rw [h.1]; exact hk), List.getElem?_eq_none (by simpa using hk)]
theorem half_next {ps cur : List Pf} {i j : Nat} {pi pj : Pf} (h : Half ps cur i) (hij : i < j) (hj : j + 1 + i = ps.length) (h1 : cur[i]? = some pi) (h2 : cur[j]? = some pj) : Half ps ((cur.set i pj).set j pi) (i + 1) := by
  refine ⟨by simp [h.1], fun k hk => ?_⟩
  have a1 := h.2 i (by omega)
  have a2 := h.2 j (by omega)
  rw [if_neg (by omega)] at a1 a2
  rw [List.getElem?_set]
  by_cases c1 : j = k
  · subst c1
    rw [if_pos rfl, if_pos (by rw [List.length_set, h.1]; omega), if_pos (by omega), show ps.length - 1 - j = i by omega, ← a1, h1]
  · rw [if_neg c1, List.getElem?_set]
    by_cases c2 : i = k
    · subst c2
      rw [if_pos rfl, if_pos (by rw [h.1]; omega), if_pos (by omega), show ps.length - 1 - i = j by omega, ← a2, h2]
    · rw [if_neg c2, h.2 k hk]
      by_cases c3 : k < i ∨ ps.length < k + 1 + i
      · rw [if_pos c3, if_pos (by omega)]
      · rw [if_neg c3, if_neg (by omega)]

set_option maxRecDepth 100000 in
set_option maxHeartbeats 4000000 in
theorem reverse_any {B : Nat} {w : World} {v : Value} {ps : List Pf} (h : OwnPfs B w v ps) (hn : ps.length * 24 + 4096 ≤ 140737488355328) :
    Calls Try.prog 19 #[v] w fun e w' => e = .returned (.tuple #[]) ∧ OwnPfs B w' v ps.reverse ∧ Below B w w' := by
  obtain ⟨n, hl⟩ : ∃ n, ps.length = n := ⟨_, rfl⟩
  rcases id h.2 with ⟨rfl, h0⟩ | ⟨g, cap, cur0, rfl, hB, _, hnc, _, _, _⟩
  · obtain rfl : ps = [] := List.eq_nil_of_length_eq_zero h0
    clear hl hn
    have HO := Lib.hid h
    clear h h0
    go_enter Try.func19, Try.ntmps19
    go_wp2_with fail
    go_loopg [2, 3] 0 (fun k v2 v3 wr => v2 = .int .i64 0 ∧ v3 = .int .i64 (-1) ∧ wr = w)
    case atStart => exact ⟨rfl, rfl, rfl⟩
    case round =>
      obtain ⟨rfl, rfl, rfl⟩ := hrel
      go_wp2_with fail
      go_end0
      exact ⟨rfl, HO.out, Below.refl _ _⟩
  · rw [hl] at h hn hnc ⊢
    have HO := Lib.hid h
    have HL := Lib.hid hl
    clear h
    have k1 : IntKind.i64.wrap ((n : Int) - 1) = (n : Int) - 1 := by
      simp [IntKind.wrap, IntKind.bits, IntKind.signed]
      omega
    go_enter Try.func19, Try.ntmps19
    go_wp2_with fail
    go_loopg [2, 3] (n / 2) (fun k v2 v3 wr => ∃ (i : Nat) (cur : List Pf), v2 = .int .i64 (i : Int) ∧ v3 = .int .i64 ((n : Int) - 1 - (i : Int)) ∧ i + k = n / 2 ∧ Hid (Half ps cur i ∧ OwnPfs B wr (.slice (some ⟨g, 0, none⟩) n cap) cur ∧ Below B w wr))
    case atStart => exact ⟨0, ps, rfl, by go_num, by omega, Lib.hid ⟨half_start ps, HO.out, Below.refl _ _⟩⟩
    case round =>
      obtain ⟨i, cur, rfl, rfl, hik, HI⟩ := hrel
      cases gk with
      | zero =>
        have HE : Hid (OwnPfs B wr (.slice (some ⟨g, 0, none⟩) n cap) ps.reverse ∧ Below B w wr) := Lib.hid (by
          have := half_end HI.out.1 (by have := HL.out; omega)
          rw [← this]; exact HI.out.2)
        have hc : ¬ (i : Int) < (n : Int) - 1 - (i : Int) := by omega
        clear HI HO HL
        go_wp2_with fail
        go_end0
        exact ⟨rfl, HE.out⟩
      | succ k =>
        obtain ⟨j, hj⟩ : ∃ j, j + 1 + i = n := ⟨n - 1 - i, by omega⟩
        have hje : (n : Int) - 1 - (i : Int) = (j : Int) := by omega
        rw [hje]
        have hij : i < j := by omega
        have hij' : (i : Int) < (j : Int) := by omega
        have hi' : (i : Int) < (n : Int) := by omega
        have hj' : (j : Int) < (n : Int) := by omega
        have hcl : cur.length = n := by rw [HI.out.1.1, HL.out]
        obtain ⟨pi, hpi⟩ : ∃ p, cur[i]? = some p := ⟨cur[i]'(by omega), List.getElem?_eq_getElem _⟩
        obtain ⟨pj, hpj⟩ : ∃ p, cur[j]? = some p := ⟨cur[j]'(by omega), List.getElem?_eq_getElem _⟩
        obtain ⟨⟨a0, a1, a2, a3, a4, a5⟩, z0, z1, z2, z3, z4, z5⟩ := own_cells HI.out.2.1 hcl hpi
        obtain ⟨⟨b0, b1, b2, b3, b4, b5⟩, y0, y1, y2, y3, y4, y5⟩ := own_cells HI.out.2.1 hcl hpj
        have ho1 : OwnPfs B ((((((wr.setCell ⟨g, i * 6, none⟩ (.int .u8 pj.ad.a0)).setCell ⟨g, i * 6 + 1, none⟩ (.int .u8 pj.ad.a1)).setCell ⟨g, i * 6 + 2, none⟩ (.int .u8 pj.ad.a2)).setCell ⟨g, i * 6 + 3, none⟩ (.int .u8 pj.ad.a3)).setCell ⟨g, i * 6 + 4, none⟩ (.int .i64 pj.bits)).setCell ⟨g, i * 6 + 5, none⟩ (.int .i64 pj.led)) (.slice (some ⟨g, 0, none⟩) n cap) (cur.set i pj) := by
          have := pf_set (w := wr) (cap := cap) (g := g) (B := B) (ps := cur) (by rw [hcl]; exact HI.out.2.1) hpi pj
          rw [hcl] at this
          exact this
        have hpj2 : (cur.set i pj)[j]? = some pj := by rw [List.getElem?_set_ne (by omega)]; exact hpj
        have ho2 : OwnPfs B ((((((((((((wr.setCell ⟨g, i * 6, none⟩ (.int .u8 pj.ad.a0)).setCell ⟨g, i * 6 + 1, none⟩ (.int .u8 pj.ad.a1)).setCell ⟨g, i * 6 + 2, none⟩ (.int .u8 pj.ad.a2)).setCell ⟨g, i * 6 + 3, none⟩ (.int .u8 pj.ad.a3)).setCell ⟨g, i * 6 + 4, none⟩ (.int .i64 pj.bits)).setCell ⟨g, i * 6 + 5, none⟩ (.int .i64 pj.led)).setCell ⟨g, j * 6, none⟩ (.int .u8 pi.ad.a0)).setCell ⟨g, j * 6 + 1, none⟩ (.int .u8 pi.ad.a1)).setCell ⟨g, j * 6 + 2, none⟩ (.int .u8 pi.ad.a2)).setCell ⟨g, j * 6 + 3, none⟩ (.int .u8 pi.ad.a3)).setCell ⟨g, j * 6 + 4, none⟩ (.int .i64 pi.bits)).setCell ⟨g, j * 6 + 5, none⟩ (.int .i64 pi.led)) (.slice (some ⟨g, 0, none⟩) n cap) ((cur.set i pj).set j pi) := by
          have hl2 : (cur.set i pj).length = n := by rw [List.length_set, hcl]
          have := pf_set (cap := cap) (g := g) (B := B) (ps := cur.set i pj) (by rw [hl2]; exact ho1) hpj2 pi
          rw [hl2] at this
          exact this
        have HN : Hid (Half ps ((cur.set i pj).set j pi) (i + 1) ∧ OwnPfs B ((((((((((((wr.setCell ⟨g, i * 6, none⟩ (.int .u8 pj.ad.a0)).setCell ⟨g, i * 6 + 1, none⟩ (.int .u8 pj.ad.a1)).setCell ⟨g, i * 6 + 2, none⟩ (.int .u8 pj.ad.a2)).setCell ⟨g, i * 6 + 3, none⟩ (.int .u8 pj.ad.a3)).setCell ⟨g, i * 6 + 4, none⟩ (.int .i64 pj.bits)).setCell ⟨g, i * 6 + 5, none⟩ (.int .i64 pj.led)).setCell ⟨g, j * 6, none⟩ (.int .u8 pi.ad.a0)).setCell ⟨g, j * 6 + 1, none⟩ (.int .u8 pi.ad.a1)).setCell ⟨g, j * 6 + 2, none⟩ (.int .u8 pi.ad.a2)).setCell ⟨g, j * 6 + 3, none⟩ (.int .u8 pi.ad.a3)).setCell ⟨g, j * 6 + 4, none⟩ (.int .i64 pi.bits)).setCell ⟨g, j * 6 + 5, none⟩ (.int .i64 pi.led)).drew (.slice (some ⟨g, 0, none⟩) n cap) ((cur.set i pj).set j pi) ∧ Below B w ((((((((((((wr.setCell ⟨g, i * 6, none⟩ (.int .u8 pj.ad.a0)).setCell ⟨g, i * 6 + 1, none⟩ (.int .u8 pj.ad.a1)).setCell ⟨g, i * 6 + 2, none⟩ (.int .u8 pj.ad.a2)).setCell ⟨g, i * 6 + 3, none⟩ (.int .u8 pj.ad.a3)).setCell ⟨g, i * 6 + 4, none⟩ (.int .i64 pj.bits)).setCell ⟨g, i * 6 + 5, none⟩ (.int .i64 pj.led)).setCell ⟨g, j * 6, none⟩ (.int .u8 pi.ad.a0)).setCell ⟨g, j * 6 + 1, none⟩ (.int .u8 pi.ad.a1)).setCell ⟨g, j * 6 + 2, none⟩ (.int .u8 pi.ad.a2)).setCell ⟨g, j * 6 + 3, none⟩ (.int .u8 pi.ad.a3)).setCell ⟨g, j * 6 + 4, none⟩ (.int .i64 pi.bits)).setCell ⟨g, j * 6 + 5, none⟩ (.int .i64 pi.led)).drew) := Lib.hid ⟨half_next HI.out.1 hij (by rw [hj, HL.out]) hpi hpj, World.ownsRow.drew ho2, (below_set6 (below_set6 HI.out.2.2 hB (i * 6) pj) hB (j * 6) pi).drew⟩
        clear HI HO ho1 ho2 hpj2 hpi hpj hcl
        have k2 : IntKind.i64.wrap ((j : Int) - 1) = (j : Int) - 1 := by
          simp [IntKind.wrap, IntKind.bits, IntKind.signed]
          omega
        have k3 : IntKind.i64.wrap ((i : Int) + 1) = (i : Int) + 1 := by
          simp [IntKind.wrap, IntKind.bits, IntKind.signed]
          omega
        go_upto_region 3 with fail
        refine wp_region_held_drew (S := (fun _ => True)) (by kernel_rfl) trivial (fun hHeld => ?_)
        refine wpAnyH_take (i := 0) (v := ?_) (by simp only [List.getElem?_toArray, List.getElem?_cons_zero] <;> rfl) (by kernel_rfl) (by kernel_rfl) (by kernel_rfl) (by exact fun _ _ _ h => h) (Or.inl ⟨by rfl, ?_⟩) hHeld ?_
        rotate_left
        · intro w hSw; (try dsimp only at hSw); go_simp; (try with_reducible rfl)
        (try simp only [Act.put, List.setIfInBounds_toArray, List.set_cons_zero, List.set_cons_succ])
        refine wpAnyH_take (i := 1) (v := ?_) (by simp only [List.getElem?_toArray, List.getElem?_cons_succ, List.getElem?_cons_zero] <;> rfl) (by kernel_rfl) (by kernel_rfl) (by kernel_rfl) (by exact fun _ _ _ h => h) (Or.inl ⟨by rfl, ?_⟩) hHeld ?_
        rotate_left
        · intro w hSw; (try dsimp only at hSw); go_simp; (try with_reducible rfl)
        (try simp only [Act.put, List.setIfInBounds_toArray, List.set_cons_zero, List.set_cons_succ])
        refine wpAnyH_take (i := 2) (v := ?_) (by simp only [List.getElem?_toArray, List.getElem?_cons_succ, List.getElem?_cons_zero] <;> rfl) (by kernel_rfl) (by kernel_rfl) (by kernel_rfl) (by exact fun _ _ _ h => h) (Or.inl ⟨by rfl, ?_⟩) hHeld ?_
        rotate_left
        · intro w hSw; (try dsimp only at hSw); go_simp; (try with_reducible rfl)
        (try simp only [Act.put, List.setIfInBounds_toArray, List.set_cons_zero, List.set_cons_succ])
        refine wpAnyH_take (i := 3) (v := ?_) (by simp only [List.getElem?_toArray, List.getElem?_cons_succ, List.getElem?_cons_zero] <;> rfl) (by kernel_rfl) (by kernel_rfl) (by kernel_rfl) (by exact fun _ _ _ h => h) (Or.inl ⟨by rfl, ?_⟩) hHeld ?_
        rotate_left
        · intro w hSw; (try dsimp only at hSw); go_simp; (try with_reducible rfl)
        (try simp only [Act.put, List.setIfInBounds_toArray, List.set_cons_zero, List.set_cons_succ])
        refine wpAnyH_take (i := 4) (v := ?_) (by simp only [List.getElem?_toArray, List.getElem?_cons_succ, List.getElem?_cons_zero] <;> rfl) (by kernel_rfl) (by kernel_rfl) (by kernel_rfl) (by exact fun _ _ _ h => h) (Or.inl ⟨by rfl, ?_⟩) hHeld ?_
        rotate_left
        · intro w hSw; (try dsimp only at hSw); go_simp; (try with_reducible rfl)
        (try simp only [Act.put, List.setIfInBounds_toArray, List.set_cons_zero, List.set_cons_succ])
        refine wpAnyH_take (i := 5) (v := ?_) (by simp only [List.getElem?_toArray, List.getElem?_cons_succ, List.getElem?_cons_zero] <;> rfl) (by kernel_rfl) (by kernel_rfl) (by kernel_rfl) (by exact fun _ _ _ h => h) (Or.inl ⟨by rfl, ?_⟩) hHeld ?_
        rotate_left
        · intro w hSw; (try dsimp only at hSw); go_simp; (try with_reducible rfl)
        (try simp only [Act.put, List.setIfInBounds_toArray, List.set_cons_zero, List.set_cons_succ])
        refine wpAnyH_take (i := 6) (v := ?_) (by simp only [List.getElem?_toArray, List.getElem?_cons_succ, List.getElem?_cons_zero] <;> rfl) (by kernel_rfl) (by kernel_rfl) (by kernel_rfl) (by exact fun _ _ _ h => h) (Or.inl ⟨by rfl, ?_⟩) hHeld ?_
        rotate_left
        · intro w hSw; (try dsimp only at hSw); go_simp; (try with_reducible rfl)
        (try simp only [Act.put, List.setIfInBounds_toArray, List.set_cons_zero, List.set_cons_succ])
        refine wpAnyH_take (i := 8) (v := ?_) (by simp only [List.getElem?_toArray, List.getElem?_cons_succ, List.getElem?_cons_zero] <;> rfl) (by kernel_rfl) (by kernel_rfl) (by kernel_rfl) (by exact fun _ _ _ h => h) (Or.inl ⟨by rfl, ?_⟩) hHeld ?_
        rotate_left
        · intro w hSw; (try dsimp only at hSw); go_simp; (try with_reducible rfl)
        (try simp only [Act.put, List.setIfInBounds_toArray, List.set_cons_zero, List.set_cons_succ])
        refine wpAnyH_take (i := 9) (v := ?_) (by simp only [List.getElem?_toArray, List.getElem?_cons_succ, List.getElem?_cons_zero] <;> rfl) (by kernel_rfl) (by kernel_rfl) (by kernel_rfl) (by exact fun _ _ _ h => h) (Or.inl ⟨by rfl, ?_⟩) hHeld ?_
        rotate_left
        · intro w hSw; (try dsimp only at hSw); go_simp; (try with_reducible rfl)
        (try simp only [Act.put, List.setIfInBounds_toArray, List.set_cons_zero, List.set_cons_succ])
        refine wpAnyH_take (i := 10) (v := ?_) (by simp only [List.getElem?_toArray, List.getElem?_cons_succ, List.getElem?_cons_zero] <;> rfl) (by kernel_rfl) (by kernel_rfl) (by kernel_rfl) (by exact fun _ _ _ h => h) (Or.inl ⟨by rfl, ?_⟩) hHeld ?_
        rotate_left
        · intro w hSw; (try dsimp only at hSw); go_simp; (try with_reducible rfl)
        (try simp only [Act.put, List.setIfInBounds_toArray, List.set_cons_zero, List.set_cons_succ])
        refine wpAnyH_ready (rs := [7, 11]) (by kernel_rfl) (by simp) ?_
        refine AllReadyH.cons (by simp only [List.getElem?_toArray, List.getElem?_cons_succ, List.getElem?_cons_zero] <;> rfl) (fun K hK => ?_) (AllReadyH.cons (by simp only [List.getElem?_toArray, List.getElem?_cons_succ, List.getElem?_cons_zero] <;> rfl) (fun K hK => ?_) AllReadyH.nil)
        · go_simp
          refine hK.out _ _ ?_ (fun hHeld => ?_)
          · trivial
          clear hK K
          (try simp only [Act.put, List.setIfInBounds_toArray, List.set_cons_zero, List.set_cons_succ])
          refine wpAnyH_ready (rs := [11]) (by kernel_rfl) (by simp) ?_
          refine AllReadyH.cons (by simp only [List.getElem?_toArray, List.getElem?_cons_succ, List.getElem?_cons_zero] <;> rfl) (fun K hK => ?_) AllReadyH.nil
          go_simp
          refine hK.out _ _ ?_ (fun hHeld => ?_)
          · trivial
          clear hK K
          (try simp only [Act.put, List.setIfInBounds_toArray, List.set_cons_zero, List.set_cons_succ])
          refine wpAnyH_take (i := 12) (v := ?_) (by simp only [List.getElem?_toArray, List.getElem?_cons_succ, List.getElem?_cons_zero] <;> rfl) (by kernel_rfl) (by kernel_rfl) (by kernel_rfl) (by exact fun _ _ _ h => h) (Or.inl ⟨by rfl, ?_⟩) hHeld ?_
          rotate_left
          · intro w hSw; (try dsimp only at hSw); go_simp; (try with_reducible rfl)
          (try simp only [Act.put, List.setIfInBounds_toArray, List.set_cons_zero, List.set_cons_succ])
          refine wpAnyH_ready (rs := [13]) (by kernel_rfl) (by simp) ?_
          refine AllReadyH.cons (by simp only [List.getElem?_toArray, List.getElem?_cons_succ, List.getElem?_cons_zero] <;> rfl) (fun K hK => ?_) AllReadyH.nil
          go_simp
          refine hK.out _ _ ?_ (fun hHeld => ?_)
          · trivial
          clear hK K
          (try simp only [Act.put, List.setIfInBounds_toArray, List.set_cons_zero, List.set_cons_succ])
          refine wpAnyH_take (i := 14) (v := ?_) (by simp only [List.getElem?_toArray, List.getElem?_cons_succ, List.getElem?_cons_zero] <;> rfl) (by kernel_rfl) (by kernel_rfl) (by kernel_rfl) (by exact fun _ _ _ h => h) (Or.inl ⟨by rfl, ?_⟩) hHeld ?_
          rotate_left
          · intro w hSw; (try dsimp only at hSw); go_simp; (try with_reducible rfl)
          (try simp only [Act.put, List.setIfInBounds_toArray, List.set_cons_zero, List.set_cons_succ])
          refine wpAnyH_ready (rs := [15]) (by kernel_rfl) (by simp) ?_
          refine AllReadyH.cons (by simp only [List.getElem?_toArray, List.getElem?_cons_succ, List.getElem?_cons_zero] <;> rfl) (fun K hK => ?_) AllReadyH.nil
          go_simp
          refine hK.out _ _ ?_ (fun hHeld => ?_)
          · trivial
          clear hK K
          (try simp only [Act.put, List.setIfInBounds_toArray, List.set_cons_zero, List.set_cons_succ])
          refine wpAnyH_done (by kernel_rfl) ?_ _
          clear a0 a1 a2 a3 a4 a5 b0 b1 b2 b3 b4 b5 z0 z1 z2 z3 z4 z5 y0 y1 y2 y3 y4 y5
          go_wp2_with fail
          go_roundg k
          case measure => omega
          case rel => exact ⟨i + 1, _, by go_num, by go_num, by omega, HN⟩
        · go_simp
          refine hK.out _ _ ?_ (fun hHeld => ?_)
          · trivial
          clear hK K
          (try simp only [Act.put, List.setIfInBounds_toArray, List.set_cons_zero, List.set_cons_succ])
          refine wpAnyH_ready (rs := [7]) (by kernel_rfl) (by simp) ?_
          refine AllReadyH.cons (by simp only [List.getElem?_toArray, List.getElem?_cons_succ, List.getElem?_cons_zero] <;> rfl) (fun K hK => ?_) AllReadyH.nil
          go_simp
          refine hK.out _ _ ?_ (fun hHeld => ?_)
          · trivial
          clear hK K
          (try simp only [Act.put, List.setIfInBounds_toArray, List.set_cons_zero, List.set_cons_succ])
          refine wpAnyH_take (i := 12) (v := ?_) (by simp only [List.getElem?_toArray, List.getElem?_cons_succ, List.getElem?_cons_zero] <;> rfl) (by kernel_rfl) (by kernel_rfl) (by kernel_rfl) (by exact fun _ _ _ h => h) (Or.inl ⟨by rfl, ?_⟩) hHeld ?_
          rotate_left
          · intro w hSw; (try dsimp only at hSw); go_simp; (try with_reducible rfl)
          (try simp only [Act.put, List.setIfInBounds_toArray, List.set_cons_zero, List.set_cons_succ])
          refine wpAnyH_ready (rs := [13]) (by kernel_rfl) (by simp) ?_
          refine AllReadyH.cons (by simp only [List.getElem?_toArray, List.getElem?_cons_succ, List.getElem?_cons_zero] <;> rfl) (fun K hK => ?_) AllReadyH.nil
          go_simp
          refine hK.out _ _ ?_ (fun hHeld => ?_)
          · trivial
          clear hK K
          (try simp only [Act.put, List.setIfInBounds_toArray, List.set_cons_zero, List.set_cons_succ])
          refine wpAnyH_take (i := 14) (v := ?_) (by simp only [List.getElem?_toArray, List.getElem?_cons_succ, List.getElem?_cons_zero] <;> rfl) (by kernel_rfl) (by kernel_rfl) (by kernel_rfl) (by exact fun _ _ _ h => h) (Or.inl ⟨by rfl, ?_⟩) hHeld ?_
          rotate_left
          · intro w hSw; (try dsimp only at hSw); go_simp; (try with_reducible rfl)
          (try simp only [Act.put, List.setIfInBounds_toArray, List.set_cons_zero, List.set_cons_succ])
          refine wpAnyH_ready (rs := [15]) (by kernel_rfl) (by simp) ?_
          refine AllReadyH.cons (by simp only [List.getElem?_toArray, List.getElem?_cons_succ, List.getElem?_cons_zero] <;> rfl) (fun K hK => ?_) AllReadyH.nil
          go_simp
          refine hK.out _ _ ?_ (fun hHeld => ?_)
          · trivial
          clear hK K
          (try simp only [Act.put, List.setIfInBounds_toArray, List.set_cons_zero, List.set_cons_succ])
          refine wpAnyH_done (by kernel_rfl) ?_ _
          clear a0 a1 a2 a3 a4 a5 b0 b1 b2 b3 b4 b5 z0 z1 z2 z3 z4 z5 y0 y1 y2 y3 y4 y5
          go_wp2_with fail
          go_roundg k
          case measure => omega
          case rel => exact ⟨i + 1, _, by go_num, by go_num, by omega, HN⟩
end Go.Proofs.Ytcadjgmglaimdaa
