/- Package share: two fractions equal; slices.Equal over fractions; a level exists; alive12. -/
import Derived.Test.YtlpchakoikmbnaaSh7
namespace Go.Proofs.Ytlpchakoikmbnaa
open Go.RowKit Go.Maps

set_option maxHeartbeats 1000000 in
theorem fr_equal (w : World) (a b c d : Int) : (Op.equalIn 10000 24 (.agg #[.int .i64 a, .int .i64 b]) (.agg #[.int .i64 c, .int .i64 d])).run Try.prog w = .ok (decide (a = c) && decide (b = d)) w := by
  have u3 := Try.underlying3
  have a3 := Try.isAgg3
  have z3 := Try.sizeOf3
  have hS : Try.prog.underlying 24 = some (.struct (Try.prog.fieldsOf 24)) := by kernel_rfl
  have hp : Try.prog.stoodInHeld 24 = false := by kernel_rfl
  rw [show (10000 : Nat) = 9999 + 1 from rfl, run_equalIn_struct w 9999 24 _ _ hS hp]
  simp only [Program.fieldsOf, Try.underlying24]
  go_simp
  by_cases h1 : a = c <;> by_cases h2 : b = d <;> simp [h1, h2]
theorem fr_eql (w : World) (a b c d : Int) : (binOp .eql 24 (.agg #[.int .i64 a, .int .i64 b]) (.agg #[.int .i64 c, .int .i64 d])).run Try.prog w = .ok (.bool (decide (a = c) && decide (b = d))) w := by
  rw [run_eql_struct, fr_equal]
  rfl
theorem fr_neq (w : World) (a b c d : Int) : (binOp .neq 24 (.agg #[.int .i64 a, .int .i64 b]) (.agg #[.int .i64 c, .int .i64 d])).run Try.prog w = .ok (.bool (!(decide (a = c) && decide (b = d)))) w := by
  rw [run_neq_struct, fr_equal]
  rfl
theorem fr_same {a b c d : Int} (h : (a, b) = (c, d)) : (decide (a = c) && decide (b = d)) = true := by
  injection h with h1 h2
  subst h1 h2
  simp
theorem fr_other {a b c d : Int} (h : (a, b) ≠ (c, d)) : (decide (a = c) && decide (b = d)) = false := by
  cases h1 : decide (a = c) with
  | false => rfl
  | true =>
    cases h2 : decide (b = d) with
    | false => rfl
    | true => exact absurd (by rw [of_decide_eq_true h1, of_decide_eq_true h2]) h

theorem take_snocP {xs : List (Int × Int)} {i : Nat} {x : Int × Int} (h : xs[i]? = some x) : xs.take (i + 1) = xs.take i ++ [x] := by
  rw [List.take_add_one, h]; rfl
theorem eq_of_takeP {xs ys : List (Int × Int)} {n : Nat} (h1 : xs.length = n) (h2 : ys.length = n) (h : xs.take n = ys.take n) : xs = ys := by
  rwa [List.take_of_length_le (by omega), List.take_of_length_le (by omega)] at h
theorem take_nextP {xs ys : List (Int × Int)} {i : Nat} {x y : Int × Int} (h : xs.take i = ys.take i) (hx : xs[i]? = some x) (hy : ys[i]? = some y) (he : x = y) : xs.take (i + 1) = ys.take (i + 1) := by
  rw [take_snocP hx, take_snocP hy, h, he]
theorem ne_of_atP {xs ys : List (Int × Int)} {i : Nat} {x y : Int × Int} (hx : xs[i]? = some x) (hy : ys[i]? = some y) (h : x ≠ y) : xs ≠ ys := by
  rintro rfl
  rw [hx] at hy
  injection hy with e
  exact h e

set_option maxRecDepth 100000 in
set_option maxHeartbeats 4000000 in
theorem equal_frs {w : World} {A1 A2 : Option Addr} {xs ys : List (Int × Int)} (h1 : FrsIn w A1 xs) (h2 : FrsIn w A2 ys) (c1 c2 : Nat) (hl16 : xs.length ≤ 1000) :
    Calls Try.prog 13 #[.slice A1 xs.length c1, .slice A2 ys.length c2] w fun e w' => e = .returned (.bool (decide (xs = ys))) ∧ Below w.heap.size w w' := by
  by_cases hl : xs.length = ys.length
  · obtain ⟨n, hn⟩ : ∃ n, xs.length = n := ⟨_, rfl⟩
    have hn2 : ys.length = n := by omega
    have HN := Lib.hid (And.intro hn hn2)
    have H1 := Lib.hid h1
    have H2 := Lib.hid h2
    rw [hn] at hl16 ⊢
    rw [hn2]
    clear h1 h2 hl hn hn2
    go_enter Try.func13, Try.ntmps13
    go_wp2_with fail
    go_loopg [13] n (fun k c wr => ∃ i t : Nat, c = .int .i64 (i : Int) ∧ i + k = n ∧ wr = w.drewN t ∧ Hid (xs.take i = ys.take i))
    case atStart => exact ⟨0, 0, rfl, by omega, rfl, Lib.hid rfl⟩
    case round =>
      obtain ⟨i, t, rfl, hik, rfl, HT⟩ := hrel
      cases gk with
      | zero =>
        obtain rfl : i = n := by omega
        go_wp2_with fail
        go_ret
        exact ⟨ret_bool (decide_eq_true (eq_of_takeP HN.out.1 HN.out.2 HT.out)).symm, below_drewN (Below.refl _ _) _⟩
      | succ k =>
        have hi : i < n := by omega
        have i1 : (i : Int) < (n : Int) := by omega
        obtain ⟨b1, o1, a, b, rfl, hx, ⟨d0, d1⟩, _⟩ := H1.out.next (i := i) (by have := HN.out.1; omega)
        obtain ⟨b2, o2, c, d, rfl, hy, ⟨d2, d3⟩, _⟩ := H2.out.next (i := i) (by have := HN.out.2; omega)
        have hne := fun w => fr_neq w a b c d
        by_cases he : (a, b) = (c, d)
        · have HM := Lib.hid (take_nextP HT.out hx hy he)
          rw [fr_same he] at hne
          clear hx hy HT he
          go_wp2_with fail
          go_quiet (fail)
          go_wp2_with fail
          go_roundg k
          case measure => omega
          case rel => exact ⟨i + 1, t + nq, by go_num, by omega, rfl, HM⟩
        · have HM := Lib.hid (ne_of_atP hx hy he)
          rw [fr_other he] at hne
          clear hx hy HT he
          go_wp2_with fail
          go_quiet (fail)
          go_wp2_with fail
          go_ret
          exact ⟨ret_bool (decide_eq_false HM.out).symm, below_drewN (below_drewN (Below.refl _ _) _) _⟩
  · have hb : ((xs.length : Int) != (ys.length : Int)) = true := by simp; omega
    have HM := Lib.hid (show xs ≠ ys from fun e => hl (by rw [e]))
    clear hl h1 h2
    go_enter Try.func13, Try.ntmps13
    go_wp2_with fail
    go_ret
    exact ⟨ret_bool (decide_eq_false HM.out).symm, Below.refl _ _⟩

/-! ### a level exists -/
theorem Left.ends {A : Int} {w v : Nat → Int} {n : Nat} (hv : ∀ k, k < n → 1 ≤ v k) : ∀ (m : Nat) (s : Nat → Bool), cS s n ≤ m → Left A w v n s → ∃ N D, Level A w v n N D := fun m => by
  induction m with
  | zero =>
    intro s hc h
    by_cases h0 : dS v s n = 0
    · exact ⟨_, _, (h.none hv h0).1⟩
    · exfalso
      have h1 : 0 < dS v s n := by have := dS_nonneg (s := s) hv; omega
      obtain ⟨k, hk, hp⟩ := su_pos h1
      cases hs : s k with
      | false => rw [hs, if_neg (by decide)] at hp; omega
      | true =>
        have := cS_lt (s := s) (t := fun _ => false) (n := n) (fun _ _ h => by cases h) ⟨k, hk, hs, rfl⟩
        omega
  | succ m ih =>
    intro s hc h
    by_cases h0 : dS v s n = 0
    · exact ⟨_, _, (h.none hv h0).1⟩
    · have h1 : 0 < dS v s n := by have := dS_nonneg (s := s) hv; omega
      by_cases c : ∃ k, k < n ∧ s k = true ∧ isS w v (A - kS w s n) (dS v s n) k = false
      · obtain ⟨k, hk, hs, hi⟩ := c
        refine ih _ ?_ (h.next hv h1)
        have := cS_lt (s := s) (t := nextS A w v n s) (n := n) (fun j _ hj => by unfold nextS at hj; rw [Bool.and_eq_true] at hj; exact hj.1) ⟨k, hk, hs, by unfold nextS; rw [hi, Bool.and_false]⟩
        omega
      · refine ⟨_, _, (h.some h1 fun k hk hs => ?_).1⟩
        cases hi : isS w v (A - kS w s n) (dS v s n) k with
        | true => rfl
        | false => exact absurd ⟨k, hk, hs, hi⟩ c
theorem Right.level {A : Int} {xs ys : List Int} (h : Right A xs ys) : ∃ N D, Level A (fn xs) (fn ys) xs.length N D :=
  Left.ends (fun _ hk => (h.weight hk).1) _ (fun _ => true) (Nat.le_refl _) (Left.start h.all.1 (fun _ hk => (h.weight hk).1) fun _ _ => rfl)

/-! ### literals -/
theorem ints_laid (w : World) (xs : List Int) (h : xs.length * 8 ≤ 281474976710656) : IntsIn (w.alloc (.cells (i64s xs).toArray 3)) (some ⟨w.heap.size, 0, none⟩) xs :=
  ⟨fun _ => ⟨w.heap.size, 0, rfl, by simp, fun j x hx => by
    rw [Nat.zero_add, cell_of_row _ _ j _ _ _ (heap_alloc_new w _), ← i64s_at hx]
    simp⟩, h⟩
def frs (gs : List (Int × Int)) : List Value := gs.flatMap fun p => [.int .i64 p.1, .int .i64 p.2]
theorem frs_length (gs : List (Int × Int)) : (frs gs).length = gs.length * 2 := by
  induction gs with
  | nil => rfl
  | cons p gs ih =>
    unfold frs at *
    rw [List.flatMap_cons, List.length_append, ih, List.length_cons, List.length_cons, List.length_cons, List.length_nil]
    omega
theorem frs_at {gs : List (Int × Int)} {j : Nat} {p : Int × Int} (h : gs[j]? = some p) : (frs gs)[j * 2]? = some (.int .i64 p.1) ∧ (frs gs)[j * 2 + 1]? = some (.int .i64 p.2) := by
  induction gs generalizing j with
  | nil => cases h
  | cons q gs ih =>
    cases j with
    | zero =>
      rw [List.getElem?_cons_zero] at h
      injection h with h
      subst h
      exact ⟨rfl, rfl⟩
    | succ j =>
      rw [List.getElem?_cons_succ] at h
      have := ih h
      rw [show (j + 1) * 2 = j * 2 + 2 by omega, show j * 2 + 2 + 1 = j * 2 + 1 + 2 by omega]
      exact this
theorem frs_laid (w : World) (gs : List (Int × Int)) : FrsIn (w.alloc (.cells (frs gs).toArray 24)) (some ⟨w.heap.size, 0, none⟩) gs :=
  ⟨fun _ => ⟨w.heap.size, 0, rfl, by simp, fun j p hp => by
    obtain ⟨h1, h2⟩ := frs_at hp
    rw [Nat.zero_add, cell_of_row _ _ (j * 2) _ _ _ (heap_alloc_new w _), cell_of_row _ _ (j * 2 + 1) _ _ _ (heap_alloc_new w _), ← h1, ← h2]
    simp⟩⟩
def laid12 (w : World) : World := (w.alloc (.cells (i64s [2, 8, 9]).toArray 3)).alloc (.cells (i64s [1, 1, 3]).toArray 3)
theorem laid12_at (w : World) : IntsIn (laid12 w) (some ⟨w.heap.size, 0, none⟩) [2, 8, 9] ∧ IntsIn (laid12 w) (some ⟨w.heap.size + 1, 0, none⟩) [1, 1, 3] ∧ Below w.heap.size w (laid12 w) := by
  have h1 := ints_laid w [2, 8, 9] (by decide)
  have h2 := ints_laid (w.alloc (.cells (i64s [2, 8, 9]).toArray 3)) [1, 1, 3] (by decide)
  have hs : (w.alloc (.cells (i64s [2, 8, 9]).toArray 3)).heap.size = w.heap.size + 1 := by simp
  have b1 : Below w.heap.size w (w.alloc (.cells (i64s [2, 8, 9]).toArray 3)) := (Below.refl _ _).alloc (Nat.le_refl _) _
  have b2 : Below (w.heap.size + 1) (w.alloc (.cells (i64s [2, 8, 9]).toArray 3)) (laid12 w) := (Below.refl _ _).alloc (by rw [hs]; exact Nat.le_refl _) _
  rw [hs] at h2
  exact ⟨h1.below (by rw [hs]; exact b2), h2, b1.trans (b2.mono (by omega))⟩
theorem right12 : Right 10 [2, 8, 9] [1, 1, 3] := ⟨rfl, by decide, by decide, by decide, by decide⟩
theorem level12 : Level 10 (fn [2, 8, 9]) (fn [1, 1, 3]) 3 8 4 := ⟨.inr ⟨by decide, by decide, by decide⟩⟩
theorem gets12 : gets (fn [2, 8, 9]) (fn [1, 1, 3]) 8 4 3 = [(2, 1), (8, 4), (24, 4)] := by decide

set_option maxRecDepth 100000 in
set_option maxHeartbeats 8000000 in
theorem alive12_any (w : World) : Calls Try.prog 14 #[] w fun e w' => e = .returned (.bool true) ∧ Below w.heap.size w w' := by
  have HL := Lib.hid (fun W => level_ok (laid12_at W).1 (laid12_at W).2.1 3 3 right12 level12)
  have HG := Lib.hid (fun W => gets_ok (laid12_at W).1 (laid12_at W).2.1 3 3 right12 level12)
  have HA := Lib.hid laid12_at
  unfold Levelled at HL
  unfold Got at HG
  simp only [List.length_cons, List.length_nil, Nat.zero_add, Nat.reduceAdd, gets12] at HL HG
  have he := fun w => fr_eql w 8 4 8 4
  rw [fr_same rfl] at he
  go_enter Try.func14, Try.ntmps14
  go_wp2_with fail
  change Calls _ _ _ (laid12 w) _
  refine (HL.out _).mono ?_
  rintro e w1 ⟨rfl, hb⟩
  have hF := laidF_at w1 8 4
  have H1 := Lib.hid (And.intro hF.1 (((HA.out w).2.2.trans (hb.mono (HA.out w).2.2.size)).trans (hF.2.1.mono (Nat.le_trans (HA.out w).2.2.size hb.size))))
  clear hb hF
  go_upto_region 2 with fail
  change Code.wp _ _ _ _ (laidF w1 8 4)
  generalize laidF w1 8 4 = w2 at *
  obtain ⟨l, hl⟩ : ∃ l, w1.heap.size = l := ⟨_, rfl⟩
  rw [hl] at H1 ⊢
  clear hl
  go_wp2_with fail
  change Calls _ _ _ (laid12 w2) _
  refine (HG.out _).mono ?_
  rintro e w3 ⟨R, cR, rfl, hR, hb, _, _⟩
  have H2 := Lib.hid (And.intro ((H1.out.1.below (HA.out w2).2.2).below hb) (And.intro hR (H1.out.2.trans (((HA.out w2).2.2.trans (hb.mono (HA.out w2).2.2.size)).mono H1.out.2.size))))
  clear hR hb H1
  obtain ⟨c0, c1⟩ := H2.out.1.cells
  have HE : Hid (Calls Try.prog 13 #[.slice R 3 cR, .slice (some ⟨w3.heap.size, 0, none⟩) 3 3] (w3.alloc (.cells #[.int .i64 2, .int .i64 1, .int .i64 8, .int .i64 4, .int .i64 24, .int .i64 4] 24)) fun e w' => e = .returned (.bool true) ∧ Below w.heap.size w w') := Lib.hid (by
    have bo : Below w3.heap.size w3 (w3.alloc (.cells (frs [(2, 1), (8, 4), (24, 4)]).toArray 24)) := (Below.refl _ _).alloc (Nat.le_refl _) _
    refine (equal_frs (H2.out.2.1.below bo) (frs_laid w3 [(2, 1), (8, 4), (24, 4)]) cR 3 (by decide)).mono ?_
    rintro e w' ⟨rfl, hb⟩
    exact ⟨rfl, H2.out.2.2.trans ((bo.trans (hb.mono bo.size)).mono H2.out.2.2.size)⟩)
  clear H2 HL HG HA
  go_wp2_with fail
  refine HE.out.mono ?_
  rintro e w4 ⟨rfl, hb⟩
  have HB := Lib.hid hb
  clear hb
  go_wp2_with fail
  go_ret
  exact ⟨rfl, HB.out⟩
end Go.Proofs.Ytlpchakoikmbnaa
