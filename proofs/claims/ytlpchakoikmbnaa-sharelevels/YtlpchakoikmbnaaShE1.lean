/- The reference for package share: LWrong. -/
import Derived.Test.YtlpchakoikmbnaaSh9
namespace Go.Proofs.Ytlpchakoikmbnaa
open Go.RowKit Go.Maps

/-- Are the first i numbers right? -/
def okB (A : Int) (xs ys : List Int) (i : Nat) : Bool := !(am A || decide (16 < (xs.length : Int))) && (List.range i).all fun k => !(am (fn xs k) || wg (fn ys k))
theorem okB_succ (A : Int) (xs ys : List Int) (i : Nat) : okB A xs ys (i + 1) = (okB A xs ys i && !(am (fn xs i) || wg (fn ys i))) := by
  unfold okB
  rw [List.range_succ, List.all_append]
  simp [Bool.and_assoc]
theorem okB_end {A : Int} {xs ys : List Int} (hl : xs.length = ys.length) : wrongL A xs ys = if okB A xs ys xs.length = true then 0 else 2 := by
  have e : okB A xs ys xs.length = !(am A || (decide (16 < (xs.length : Int)) || (xs.any am || ys.any wg))) := by
    unfold okB
    have e2 : ((List.range xs.length).all fun k => !(am (fn xs k) || wg (fn ys k))) = !(xs.any am || ys.any wg) := by
      rw [Bool.eq_iff_iff, List.all_eq_true, Bool.not_eq_true', Bool.or_eq_false_iff, List.any_eq_false, List.any_eq_false]
      constructor
      · intro h
        refine ⟨fun x hx => ?_, fun y hy => ?_⟩
        · obtain ⟨k, hk⟩ := List.mem_iff_getElem?.1 hx
          have := h k (List.mem_range.2 (List.getElem?_eq_some_iff.1 hk).1)
          rw [fn_at hk] at this
          simp at this
          simp [this.1]
        · obtain ⟨k, hk⟩ := List.mem_iff_getElem?.1 hy
          have := h k (List.mem_range.2 (by rw [hl]; exact (List.getElem?_eq_some_iff.1 hk).1))
          rw [fn_at hk] at this
          simp at this
          simp [this.2]
      · intro h k hk
        have hk := List.mem_range.1 hk
        have h1 := h.1 _ (List.mem_of_getElem? (at_fn (xs := xs) (k := k) hk))
        have h2 := h.2 _ (List.mem_of_getElem? (at_fn (xs := ys) (k := k) (by omega)))
        simp at h1 h2
        simp [h1, h2]
    rw [e2]
    cases am A <;> cases decide (16 < (xs.length : Int)) <;> cases xs.any am <;> cases ys.any wg <;> rfl
  unfold wrongL
  rw [if_neg (by omega), e]
  cases am A || (decide (16 < (xs.length : Int)) || (xs.any am || ys.any wg)) <;> rfl

set_option maxRecDepth 100000 in
set_option maxHeartbeats 8000000 in
theorem lwrong_any {w : World} {P Q : Option Addr} {xs ys : List Int} (hx : IntsIn w P xs) (hy : IntsIn w Q ys) (cx cy : Nat) (A : Int) :
    Calls Try.prog 10 #[.int .i64 A, .slice P xs.length cx, .slice Q ys.length cy] w fun e w' => e = .returned (.int .i64 (wrongL A xs ys)) ∧ w = w' := by
  by_cases hl : xs.length = ys.length
  · obtain ⟨n, hn⟩ : ∃ n, xs.length = n := ⟨_, rfl⟩
    have hm : ys.length = n := by omega
    have hlen := hx.len
    have HX := Lib.hid hx
    have HY := Lib.hid hy
    have HN := Lib.hid (And.intro hn hm)
    have hR : wrongL A xs ys = if okB A xs ys n = true then 0 else 2 := by rw [← hn]; exact okB_end hl
    have HE : Hid (okB A xs ys 0 = !(am A || decide (16 < (n : Int)))) := Lib.hid (by unfold okB; rw [hn]; simp)
    rw [hR, hn, hm]
    rw [hn] at hlen
    clear hx hy hn hm hl hR
    obtain ⟨Z, hZ⟩ : ∃ Z : Int, (if okB A xs ys n = true then 0 else 2) = Z := ⟨_, rfl⟩
    rw [hZ]
    have HZ := Lib.hid hZ
    clear hZ
    have hst : ∃ J, okB A xs ys 0 = J ∧ ((J = false ∧ (decide (0 ≤ A) = false ∨ (decide (0 ≤ A) = true ∧ decide (A ≤ 1048576) = false) ∨ (decide (0 ≤ A) = true ∧ decide (A ≤ 1048576) = true ∧ decide (n ≤ 16) = false))) ∨ (J = true ∧ decide (0 ≤ A) = true ∧ decide (A ≤ 1048576) = true ∧ decide (n ≤ 16) = true)) := by
      refine ⟨_, rfl, ?_⟩
      rw [HE.out]
      unfold am
      by_cases h1 : A < 0
      · exact .inl ⟨by simp [h1], .inl (decide_eq_false (by omega))⟩
      · by_cases h2 : 1048576 < A
        · exact .inl ⟨by simp [h2], .inr (.inl ⟨decide_eq_true (by omega), decide_eq_false (by omega)⟩)⟩
        · by_cases h3 : 16 < (n : Int)
          · exact .inl ⟨by simp; omega, .inr (.inr ⟨decide_eq_true (by omega), decide_eq_true (by omega), decide_eq_false (by omega)⟩)⟩
          · exact .inr ⟨by simp; omega, decide_eq_true (by omega), decide_eq_true (by omega), decide_eq_true (by omega)⟩
    obtain ⟨J, hJ, hway⟩ := hst
    have HJ := Lib.hid hJ
    clear hJ HE
    have en : ((n : Int) != (n : Int)) = false := by simp
    rcases hway with ⟨rfl, h1 | ⟨h1, h2⟩ | ⟨h1, h2, h3⟩⟩ | ⟨rfl, h1, h2, h3⟩
    all_goals
      go_enter Try.func10, Try.ntmps10
      go_wp2_with fail
      (try have H3 := Lib.hid h3)
      (try clear h3)
      (try clear h2)
      clear h1 en
      go_loopg [7, 27] n (fun z s c wr => ∃ i : Nat, s = .bool (okB A xs ys i) ∧ c = .int .i64 (i : Int) ∧ i + z = n ∧ wr = w)
      case atStart => exact ⟨0, by rw [HJ.out]; all_goals (have h := H3.out; simp at h; simp; omega), rfl, by omega, rfl⟩
      case round =>
        obtain ⟨i, rfl, rfl, hik, rfl⟩ := hrel
        cases gk with
        | zero =>
          obtain rfl : i = n := by omega
          cases hj : okB A xs ys i with
          | true =>
            have HF : Hid (Z = 0) := Lib.hid (by rw [← HZ.out, hj]; rfl)
            clear hj HZ HJ
            go_wp2_with fail
            go_ret
            exact ⟨ret_i64 HF.out.symm, rfl⟩
          | false =>
            have HF : Hid (Z = 2) := Lib.hid (by rw [← HZ.out, hj]; rfl)
            clear hj HZ HJ
            go_wp2_with fail
            go_ret
            exact ⟨ret_i64 HF.out.symm, rfl⟩
        | succ k =>
          have hi : i < n := by omega
          have i1 : (i : Int) < (n : Int) := by omega
          have HK := Lib.hid (okB_succ A xs ys i)
          cases hj : okB A xs ys i with
          | false =>
            have HR : Hid (okB A xs ys (i + 1) = false) := Lib.hid (by rw [HK.out, hj]; rfl)
            clear hj HK
            go_wp2_with fail
            go_roundg k
            case measure => omega
            case rel => exact ⟨i + 1, by rw [HR.out], by go_num, by omega, rfl⟩
          | true =>
            rw [hj, Bool.true_and] at HK
            obtain ⟨gx, ox, x, rfl, hx, hcx, _⟩ := HX.out.next (i := i) (by rw [HN.out.1]; exact hi)
            obtain ⟨gy, oy, y, rfl, hy, hcy, _⟩ := HY.out.next (i := i) (by rw [HN.out.2]; exact hi)
            rw [fn_at hx, fn_at hy] at HK
            clear hx hy hj
            have hw : (x < 0) ∨ (¬ x < 0 ∧ 1048576 < x) ∨ (¬ x < 0 ∧ ¬ 1048576 < x ∧ y < 1) ∨ (¬ x < 0 ∧ ¬ 1048576 < x ∧ ¬ y < 1 ∧ 1000 < y) ∨ (¬ x < 0 ∧ ¬ 1048576 < x ∧ ¬ y < 1 ∧ ¬ 1000 < y) := by omega
            unfold am wg at HK
            rcases hw with k1 | ⟨k1, k2⟩ | ⟨k1, k2, k3⟩ | ⟨k1, k2, k3, k4⟩ | ⟨k1, k2, k3, k4⟩
            · have HR : Hid (okB A xs ys (i + 1) = false) := Lib.hid (by rw [HK.out]; simp; omega)
              have d1 : decide (0 ≤ x) = false := decide_eq_false (by omega)
              clear HK k1
              go_wp2_with fail
              go_roundg k
              case measure => omega
              case rel => exact ⟨i + 1, by rw [HR.out], by go_num, by omega, rfl⟩
            · have HR : Hid (okB A xs ys (i + 1) = false) := Lib.hid (by rw [HK.out]; simp; omega)
              have d1 : decide (0 ≤ x) = true := decide_eq_true (by omega)
              have d2 : decide (x ≤ 1048576) = false := decide_eq_false (by omega)
              clear HK k1 k2
              go_wp2_with fail
              go_roundg k
              case measure => omega
              case rel => exact ⟨i + 1, by rw [HR.out], by go_num, by omega, rfl⟩
            · have HR : Hid (okB A xs ys (i + 1) = false) := Lib.hid (by rw [HK.out]; simp; omega)
              have d1 : decide (0 ≤ x) = true := decide_eq_true (by omega)
              have d2 : decide (x ≤ 1048576) = true := decide_eq_true (by omega)
              have d3 : decide (1 ≤ y) = false := decide_eq_false (by omega)
              clear HK k1 k2 k3
              go_wp2_with fail
              go_roundg k
              case measure => omega
              case rel => exact ⟨i + 1, by rw [HR.out], by go_num, by omega, rfl⟩
            · have HR : Hid (okB A xs ys (i + 1) = false) := Lib.hid (by rw [HK.out]; simp; omega)
              have d1 : decide (0 ≤ x) = true := decide_eq_true (by omega)
              have d2 : decide (x ≤ 1048576) = true := decide_eq_true (by omega)
              have d3 : decide (1 ≤ y) = true := decide_eq_true (by omega)
              have d4 : decide (y ≤ 1000) = false := decide_eq_false (by omega)
              clear HK k1 k2 k3 k4
              go_wp2_with fail
              go_roundg k
              case measure => omega
              case rel => exact ⟨i + 1, by rw [HR.out], by go_num, by omega, rfl⟩
            · have HR : Hid (okB A xs ys (i + 1) = true) := Lib.hid (by rw [HK.out]; simp; omega)
              have d1 : decide (0 ≤ x) = true := decide_eq_true (by omega)
              have d2 : decide (x ≤ 1048576) = true := decide_eq_true (by omega)
              have d3 : decide (1 ≤ y) = true := decide_eq_true (by omega)
              have d4 : decide (y ≤ 1000) = true := decide_eq_true (by omega)
              clear HK k1 k2 k3 k4
              go_wp2_with fail
              go_roundg k
              case measure => omega
              case rel => exact ⟨i + 1, by rw [HR.out], by go_num, by omega, rfl⟩
  · have hR : wrongL A xs ys = 1 := by unfold wrongL; rw [if_pos hl]
    have e1 : ((xs.length : Int) != (ys.length : Int)) = true := by simp; omega
    rw [hR]
    generalize xs.length = n at *
    generalize ys.length = m at *
    clear hx hy hl hR
    go_enter Try.func10, Try.ntmps10
    go_wp2_with fail
    go_ret
    exact ⟨rfl, rfl⟩
end Go.Proofs.Ytlpchakoikmbnaa
