/- slices.DeleteFunc over a slice of numbers of the call's own, with the law's own predicate. -/
import Derived.Test.YtbckppflfgdblaaHp30
namespace Go.Proofs.Ytbckppflfgdblaa
open Go.RowKit Go.Maps

/-- The predicate: is it the number in block kb? -/
def fv (kb : Nat) : Value := .func (.func 21) #[] #[.pointer (some ⟨kb, 0, none⟩)]
theorem del_any {w : World} {kb : Nat} {x y : Int} (hc : w.cell? ⟨kb, 0, none⟩ = some (.int .i64 x)) :
    Calls Try.prog 21 #[.int .i64 y, .pointer (some ⟨kb, 0, none⟩)] w fun e w' => e = .returned (.bool (y == x)) ∧ w' = w := by
  go_enter Try.func21, Try.ntmps21
  go_wp2
  go_ret
  exact ⟨rfl, rfl⟩

/-- Where the number first stands. -/
def FirstAt (xs : List Int) (x : Int) (r : Int) : Prop := (r = -1 ∧ x ∉ xs) ∨ ∃ i : Nat, r = (i : Int) ∧ i < xs.length ∧ xs.getD i 0 = x ∧ ∀ j, j < i → xs.getD j 0 ≠ x

set_option maxHeartbeats 1000000 in
theorem indexFunc_ints {B : Nat} {w : World} {v : Value} {xs : List Int} {kb : Nat} {x : Int} (h : NumsIs 3 B w v xs) (hc : w.cell? ⟨kb, 0, none⟩ = some (.int .i64 x)) (hn : xs.length ≤ 5000000000000) :
    Calls Try.prog 31 #[v, .func (.func 21) #[] #[.pointer (some ⟨kb, 0, none⟩)]] w fun e w' => ∃ r : Int, e = .returned (.int .i64 r) ∧ w' = w ∧ FirstAt xs x r := by
  obtain ⟨A, c, rfl, hA⟩ := h.form
  obtain ⟨n, hx⟩ : ∃ n, xs.length = n := ⟨_, rfl⟩
  rw [hx] at hA hn ⊢
  have HA := Lib.hid hA
  have HX := Lib.hid hx
  have HC := Lib.hid hc
  clear h hA hx hc
  go_enter Try.func31, Try.ntmps31
  go_wp2
  go_loopg [8] n (fun k c wr => ∃ i : Nat, c = .int .i64 (i : Int) ∧ i + k = n ∧ wr = w ∧ Hid (∀ j, j < i → xs.getD j 0 ≠ x))
  case atStart => exact ⟨0, rfl, by omega, rfl, Lib.hid (fun j hj => absurd hj (by omega))⟩
  case round =>
    obtain ⟨i, rfl, hik, rfl, HT⟩ := hrel
    cases gk with
    | zero =>
      obtain rfl : i = n := by omega
      go_wp2
      go_ret
      exact ⟨-1, rfl, rfl, .inl ⟨rfl, not_mem_of_all (by rw [HX.out]; exact HT.out)⟩⟩
    | succ k =>
      have hi : i < n := by omega
      obtain ⟨g, rfl, cc⟩ := HA.out (by omega)
      have d1 := cc i hi
      clear cc
      have i1 : (i : Int) < (n : Int) := by omega
      by_cases he : xs.getD i 0 = x
      · have HD := Lib.hid (del_any (y := xs.getD i 0) HC.out)
        have hb : (xs.getD i 0 == x) = true := by simpa using he
        rw [hb] at HD
        have HM := Lib.hid he
        clear he hb
        generalize xs.getD i 0 = y at d1 HD
        go_wp2_with fail
        refine HD.out.mono ?_
        rintro e w' ⟨rfl, rfl⟩
        go_wp2
        go_ret
        exact ⟨i, rfl, rfl, .inr ⟨i, rfl, by rw [HX.out]; exact hi, HM.out, HT.out⟩⟩
      · have HD := Lib.hid (del_any (y := xs.getD i 0) HC.out)
        have hb : (xs.getD i 0 == x) = false := beq_eq_false_iff_ne.2 he
        rw [hb] at HD
        have HN := Lib.hid (show ∀ j, j < i + 1 → xs.getD j 0 ≠ x from fun j hj => by
          by_cases e : j = i
          · rw [e]; exact he
          · exact HT.out j (by omega))
        clear he hb
        generalize xs.getD i 0 = y at d1 HD
        go_wp2_with fail
        refine HD.out.mono ?_
        rintro e w' ⟨rfl, rfl⟩
        go_wp2
        go_roundg k
        case measure => omega
        case rel => exact ⟨i + 1, by go_num, by omega, rfl, HN⟩

/-! ### DeleteFunc -/
def flt (xs : List Int) (x : Int) (j : Nat) : List Int := (xs.take j).filter (fun y => !(y == x))
theorem take_getD {xs : List Int} {j : Nat} (h : j < xs.length) : xs.take (j + 1) = xs.take j ++ [xs.getD j 0] := by
  rw [List.take_add_one, List.getElem?_eq_getElem h, List.getD_eq_getElem?_getD, List.getElem?_eq_getElem h]; rfl
theorem flt_keep {xs : List Int} {x : Int} {j : Nat} (h : j < xs.length) (hne : xs.getD j 0 ≠ x) : flt xs x (j + 1) = flt xs x j ++ [xs.getD j 0] := by
  unfold flt; rw [take_getD h, List.filter_append, List.filter_cons_of_pos (by simpa using hne)]; rfl
theorem flt_drop {xs : List Int} {x : Int} {j : Nat} (h : j < xs.length) (he : xs.getD j 0 = x) : flt xs x (j + 1) = flt xs x j := by
  unfold flt; rw [take_getD h, List.filter_append, List.filter_cons_of_neg (by simpa using he)]; simp
theorem flt_le (xs : List Int) (x : Int) (j : Nat) : (flt xs x j).length ≤ j := by
  unfold flt; exact Nat.le_trans (List.length_filter_le _ _) (by rw [List.length_take]; omega)
theorem flt_all {xs : List Int} {x : Int} {j : Nat} (h : ∀ t, t < j → xs.getD t 0 ≠ x) (hj : j ≤ xs.length) : flt xs x j = xs.take j := by
  unfold flt
  rw [List.filter_eq_self]
  intro y hy
  obtain ⟨t, ht, rfl⟩ := List.mem_iff_getElem.1 hy
  rw [List.length_take] at ht
  have := h t (by omega)
  rw [List.getD_eq_getElem?_getD, List.getElem?_eq_getElem (by omega)] at this
  simpa [List.getElem_take] using this
theorem getD_append_left {a b : List Int} {t : Nat} (h : t < a.length) : (a ++ b).getD t 0 = a.getD t 0 := by
  rw [List.getD_eq_getElem?_getD, List.getD_eq_getElem?_getD, List.getElem?_append_left h]

/-- j numbers have been looked at. -/
def DI (w : World) (g cap : Nat) (xs : List Int) (x : Int) (j : Nat) (wr : World) : Prop :=
  ∃ F, wr.rowIs g 3 cap F ∧ (∀ t, t < (flt xs x j).length → F t = .int .i64 ((flt xs x j).getD t 0)) ∧ (∀ t, j ≤ t → t < xs.length → F t = .int .i64 (xs.getD t 0)) ∧ Chg (fun k => k = g) w wr

theorem row_of_nums {B : Nat} {w : World} {xs : List Int} {g cap : Nat} (h : NumsIs 3 B w (.slice (some ⟨g, 0, none⟩) xs.length cap) xs) : B ≤ g ∧ xs.length ≤ cap ∧ cap ≤ 9223372036854775807 ∧ ∃ F, w.rowIs g 3 cap F ∧ ∀ t, t < xs.length → F t = .int .i64 (xs.getD t 0) := by
  rcases h.2 with ⟨h1, _⟩ | ⟨g', cap', cur, hv, hB, hb, hn, hc, hs, ht⟩
  · cases h1
  · simp only [Value.slice.injEq, Option.some.injEq, Addr.mk.injEq] at hv
    obtain ⟨⟨rfl, _⟩, _, rfl⟩ := hv
    refine ⟨hB, hn, hc, fun t => cur[t]?.getD undef, ⟨cur, hb, by omega, fun i hi => getD_some cur (by omega)⟩, fun t htl => ?_⟩
    have e : (cur.toList.take (xs.length * 1))[t]? = (ints xs)[t]? := by rw [ht]
    rw [List.getElem?_take_of_lt (by omega), Array.getElem?_toList] at e
    simp only
    rw [e]
    simp [ints, List.getElem?_eq_getElem htl]
theorem nums_of_cells {B : Nat} {w : World} {g cap : Nat} {F : Nat → Value} {ys : List Int} (h : w.rowIs g 3 cap F) (hB : B ≤ g) (hc : cap ≤ 9223372036854775807) (hl : ys.length ≤ cap) (hF : ∀ t, t < ys.length → F t = .int .i64 (ys.getD t 0)) : NumsIs 3 B w (.slice (some ⟨g, 0, none⟩) ys.length cap) ys := by
  obtain ⟨c, hb, hs, hcc⟩ := h
  refine ⟨by simp [ints], .inr ⟨g, cap, c, rfl, hB, hb, hl, hc, by omega, ?_⟩⟩
  apply List.ext_getElem?
  intro j
  rw [Nat.mul_one]
  rcases Nat.lt_or_ge j ys.length with hj | hj
  · rw [List.getElem?_take_of_lt hj, Array.getElem?_toList, hcc j (by omega), hF j hj]
    simp [ints, List.getElem?_eq_getElem hj]
  · rw [List.getElem?_eq_none (by rw [List.length_take]; omega), List.getElem?_eq_none (by simp [ints]; omega)]

theorem di_start {w : World} {g cap k : Nat} {xs : List Int} {x : Int} {F : Nat → Value} (hF : w.rowIs g 3 cap F) (hx : ∀ t, t < xs.length → F t = .int .i64 (xs.getD t 0)) (hk : k < xs.length) (he : xs.getD k 0 = x) (hf : ∀ j, j < k → xs.getD j 0 ≠ x) :
    DI w g cap xs x (k + 1) w ∧ (flt xs x (k + 1)).length = k := by
  have e1 : flt xs x (k + 1) = xs.take k := by rw [flt_drop hk he, flt_all hf (by omega)]
  refine ⟨⟨F, hF, fun t ht => ?_, fun t _ ht => hx t ht, Chg.refl _ _⟩, by rw [e1, List.length_take]; omega⟩
  rw [e1] at ht ⊢
  rw [List.length_take] at ht
  rw [hx t (by omega), List.getD_eq_getElem?_getD, List.getD_eq_getElem?_getD, List.getElem?_take_of_lt (by omega)]
theorem di_keep {w wr : World} {g cap j : Nat} {xs : List Int} {x : Int} (h : DI w g cap xs x j wr) (hj : j < xs.length) (_ : xs.length ≤ cap) (hne : xs.getD j 0 ≠ x) {i : Nat} (hi : (flt xs x j).length = i) (hij : i < j) :
    DI w g cap xs x (j + 1) (wr.setCell ⟨g, i, none⟩ (.int .i64 (xs.getD j 0))) ∧ (flt xs x (j + 1)).length = i + 1 := by
  obtain ⟨F, hF, h1, h2, h3⟩ := h
  have e1 := flt_keep hj hne
  refine ⟨⟨_, hF.set i _, fun t ht => ?_, fun t ht1 ht2 => ?_, h3.set (p := ⟨g, i, none⟩) (.inl rfl) _⟩, by rw [e1, List.length_append, hi]; rfl⟩
  · rw [e1, List.length_append, List.length_singleton] at ht
    rw [e1]
    by_cases e : t = i
    · simp only [e, if_true]
      rw [List.getD_eq_getElem?_getD (l := _ ++ _), List.getElem?_append_right (by omega), hi, Nat.sub_self]; rfl
    · simp only [e, if_false]
      rw [h1 t (by omega), getD_append_left (by omega)]
  · rw [if_neg (by omega)]
    exact h2 t (by omega) ht2
theorem di_skip {w wr : World} {g cap j : Nat} {xs : List Int} {x : Int} (h : DI w g cap xs x j wr) (hj : j < xs.length) (he : xs.getD j 0 = x) : DI w g cap xs x (j + 1) wr ∧ (flt xs x (j + 1)).length = (flt xs x j).length := by
  obtain ⟨F, hF, h1, h2, h3⟩ := h
  have e1 := flt_drop hj he
  exact ⟨⟨F, hF, by rw [e1]; exact h1, fun t ht1 ht2 => h2 t (by omega) ht2, h3⟩, by rw [e1]⟩
theorem setCells_row {w : World} {g n o : Nat} {t : TypeId} {F : Nat → Value} (vs : List Value) (h : w.rowIs g t n F) : ∃ G, (w.setCells g o vs).rowIs g t n G ∧ (∀ j, j < o → G j = F j) ∧ Chg (fun k => k = g) w (w.setCells g o vs) := by
  induction vs generalizing w o F with
  | nil => exact ⟨F, h, fun _ _ => rfl, Chg.refl _ _⟩
  | cons v r ih =>
    obtain ⟨G, h1, h2, h3⟩ := ih (o := o + 1) (h.set o v)
    refine ⟨G, h1, fun j hj => ?_, ((Chg.refl (fun k => k = g) w).set (p := ⟨g, o, none⟩) (.inl rfl) v).trans h3⟩
    rw [h2 j (by omega), if_neg (by omega)]
theorem zero3' (w : World) : (zeroValue 3).run Try.prog w = .ok (.int .i64 0) w := zero3 w
theorem di_clear {w wr : World} {g cap n i : Nat} {xs : List Int} {x : Int} (h : DI w g cap xs x n wr) (hn : xs.length = n) (hc : n ≤ cap) (hi : (flt xs x n).length = i) (hlt : i < n) :
    ∃ W, (∀ ty, (Builtin.clear_ #[24] ty #[.slice (some ⟨g, i, none⟩) (n - i) (cap - i)]).run Try.prog wr = .ok (.tuple #[]) W) ∧ DI w g cap xs x n W := by
  obtain ⟨F, hF, h1, h2, h3⟩ := h
  obtain ⟨G, g1, g2, g3⟩ := setCells_row (o := i) (List.replicate (n - i) (.int .i64 0)) hF
  refine ⟨_, fun ty => Lib.run_clear_slice wr _ _ ty _ Try.underlying24 zero3' rfl rfl g i (n - i) (cap - i) (by omega) (fun j hj => by rw [hF.cell (by omega)]; rfl) (fun j hj => hF.frozen _), G, g1, fun t ht => by rw [g2 t (by omega)]; exact h1 t ht, fun t ht1 ht2 => absurd ht2 (by omega), h3.trans g3⟩

end Go.Proofs.Ytbckppflfgdblaa
