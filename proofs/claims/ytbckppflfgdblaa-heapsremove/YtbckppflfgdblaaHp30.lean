/- slices.Contains over a slice of numbers; slices.Clone of one. -/
import Derived.Test.YtbckppflfgdblaaHp15
import Derived.Lib.SliceRun
namespace Go.Proofs.Ytbckppflfgdblaa
open Go.RowKit Go.Maps

theorem getD_mem {xs : List Int} {i : Nat} (h : i < xs.length) : xs.getD i 0 ∈ xs := by
  rw [List.getD_eq_getElem?_getD, List.getElem?_eq_getElem h]; exact List.getElem_mem h
theorem not_mem_of_all {xs : List Int} {x : Int} (h : ∀ j, j < xs.length → xs.getD j 0 ≠ x) : x ∉ xs := fun hm => by
  obtain ⟨j, hj, e⟩ := List.mem_iff_getElem.1 hm
  exact h j hj (by rw [List.getD_eq_getElem?_getD, List.getElem?_eq_getElem hj]; exact e)

set_option maxHeartbeats 1000000 in
theorem index_ints {B : Nat} {w : World} {v : Value} {xs : List Int} (h : NumsIs 3 B w v xs) (hn : xs.length ≤ 5000000000000) (x : Int) :
    Calls Try.prog 30 #[v, .int .i64 x] w fun e w' => ∃ r : Int, e = .returned (.int .i64 r) ∧ w' = w ∧ (decide (0 ≤ r) = decide (x ∈ xs)) := by
  obtain ⟨A, c, rfl, hA⟩ := h.form
  obtain ⟨n, hx⟩ : ∃ n, xs.length = n := ⟨_, rfl⟩
  rw [hx] at hA hn ⊢
  have HA := Lib.hid hA
  have HX := Lib.hid hx
  clear h hA hx
  go_enter Try.func30, Try.ntmps30
  go_wp2
  go_loopg [8] n (fun k c wr => ∃ i : Nat, c = .int .i64 (i : Int) ∧ i + k = n ∧ wr = w ∧ Hid (∀ j, j < i → xs.getD j 0 ≠ x))
  case atStart => exact ⟨0, rfl, by omega, rfl, Lib.hid (fun j hj => absurd hj (by omega))⟩
  case round =>
    obtain ⟨i, rfl, hik, rfl, HT⟩ := hrel
    cases gk with
    | zero =>
      obtain rfl : i = n := by omega
      go_wp2
      go_ret
      exact ⟨-1, rfl, rfl, by rw [decide_eq_false (by decide), decide_eq_false (not_mem_of_all (by rw [HX.out]; exact HT.out))]⟩
    | succ k =>
      have hi : i < n := by omega
      obtain ⟨g, rfl, cc⟩ := HA.out (by omega)
      have d1 := cc i hi
      clear cc
      have i1 : (i : Int) < (n : Int) := by omega
      by_cases he : xs.getD i 0 = x
      · rw [he] at d1
        have HM := Lib.hid (show x ∈ xs by rw [← he]; exact getD_mem (by rw [HX.out]; exact hi))
        clear he
        go_wp2
        go_ret
        exact ⟨i, rfl, rfl, by rw [decide_eq_true (by omega), decide_eq_true HM.out]⟩
      · have hb : (x == xs.getD i 0) = false := beq_eq_false_iff_ne.2 (fun e => he e.symm)
        have HN := Lib.hid (show ∀ j, j < i + 1 → xs.getD j 0 ≠ x from fun j hj => by
          by_cases e : j = i
          · rw [e]; exact he
          · exact HT.out j (by omega))
        clear he
        generalize xs.getD i 0 = y at d1 hb
        go_wp2
        go_roundg k
        case measure => omega
        case rel => exact ⟨i + 1, by go_num, by omega, rfl, HN⟩

theorem contains_ints {B : Nat} {w : World} {v : Value} {xs : List Int} (h : NumsIs 3 B w v xs) (hn : xs.length ≤ 5000000000000) (x : Int) :
    Calls Try.prog 18 #[v, .int .i64 x] w fun e w' => e = .returned (.bool (decide (x ∈ xs))) ∧ w' = w := by
  have HI := Lib.hid (index_ints h hn x)
  clear h
  go_enter Try.func18, Try.ntmps18
  go_wp2_with fail
  refine HI.out.mono ?_
  rintro e w' ⟨r, rfl, rfl, hr⟩
  have HR := Lib.hid hr
  clear hr
  by_cases t : 0 ≤ r
  · go_wp2
    go_ret
    exact ⟨ret_bool (by rw [← HR.out, decide_eq_true t]), rfl⟩
  · go_wp2
    go_ret
    exact ⟨ret_bool (by first | (rw [← HR.out]; done) | (rw [← HR.out, decide_eq_false (by omega)])), rfl⟩

/-! ### Clone -/
theorem ints_clone_run {B : Nat} {w : World} {xs : List Int} {g cap : Nat} (h : NumsIs 3 B w (.slice (some ⟨g, 0, none⟩) xs.length cap) xs) (hn : xs.length ≤ 5000000000000) :
    ∃ v W2, (Builtin.append_ #[24, 24] 24 #[.slice (some ⟨w.heap.size, 0, none⟩) 0 0, .slice (some ⟨g, 0, none⟩) xs.length cap]).run Try.prog (w.alloc (.cells #[] 3)) = .ok v W2 ∧ NumsIs 3 w.heap.size W2 v xs ∧ Below w.heap.size w W2 := by
  obtain ⟨i0, hi, hz0, hz1, hz2⟩ := info_parts Try.info3
  have hown : (w.alloc (.cells #[] 3)).ownsRow w.heap.size 3 1 (.slice (some ⟨w.heap.size, 0, none⟩) 0 0) 0 [] := World.ownsRow_made w #[] 0 (Nat.le_refl _) (by simp only [maxLen]; omega) rfl
  have hb0 : Below w.heap.size w (w.alloc (.cells #[] 3)) := (Below.refl _ _).alloc (Nat.le_refl _) _
  have h' := h.below hb0
  obtain ⟨v', W, hr, h2, h3, _, _⟩ := run_append_own_at (P := Try.prog) (w.alloc (.cells #[] 3)) w.heap.size 24 24 3 i0 _ 1 8 Try.underlying24 hi hz0 hz1 hz2 rfl (by decide) (.slice (some ⟨w.heap.size, 0, none⟩) 0 0) 0 [] hown
    ⟨g, 0, none⟩ xs.length cap (ints xs) (by simp [ints]) (fun j u hu => World.ownsRow.cells h' rfl j u hu) (by intro u hu; simp only [ints, List.mem_map] at hu; obtain ⟨y, _, rfl⟩ := hu; rfl) (by simp only [maxLen]; omega) (by omega) hb0.size
  refine ⟨v', W, hr, ?_, hb0.trans ((Chg.of_grown (S := fun k => k = w.heap.size) h3 (fun k e => ?_)).below hb0.size (fun k e => by omega))⟩
  · unfold NumsIs
    simpa using h2
  · simp only [Value.ownBlock, Option.some.injEq] at e
    exact e.symm

set_option maxHeartbeats 1000000 in
theorem clone_ints {B : Nat} {w : World} {v : Value} {xs : List Int} (h : NumsIs 3 B w v xs) (hn : xs.length ≤ 5000000000000) :
    Calls Try.prog 20 #[v] w fun e w' => ∃ v', e = .returned v' ∧ NumsIs 3 w.heap.size w' v' xs ∧ Below w.heap.size w w' := by
  have hnil : ∀ (w : World) (a : Option Addr) (n c n' c' : Nat), (binOp .eql 24 (.slice a n c) (.slice none n' c')).run Try.prog w = .ok (.bool a.isNone) w := fun w a n c n' c' => Lib.run_eql_slice_nil w _ _ a n c n' c' Try.underlying24
  have h2 := h.2
  rcases h2 with ⟨rfl, h0⟩ | ⟨g, cap, cur, rfl, _⟩
  · have HX := Lib.hid (show xs = [] from List.eq_nil_of_length_eq_zero h0)
    clear h h0 hn
    go_enter Try.func20, Try.ntmps20
    go_wp2
    go_ret
    exact ⟨_, rfl, by rw [HX.out]; exact World.ownsRow_nil _ _ _ _, Below.refl _ _⟩
  · obtain ⟨v, W2, r2, h1, h2⟩ := ints_clone_run h hn
    have HX := Lib.hid (And.intro h1 h2)
    clear h1 h2 h hn
    go_enter Try.func20, Try.ntmps20
    go_wp2_with (at_builtin; refine wpList_append_eq rfl (.tmp 5) (.tmp 6) 24 rfl rfl rfl r2 ?_)
    go_ret
    exact ⟨_, rfl, HX.out⟩

end Go.Proofs.Ytbckppflfgdblaa
