/- GpsLast: the last is done when all bytes are gone, and nobody later. -/
import Derived.Test.YtemoleopabddnaaGp6
namespace Go.Proofs.Ytemoleopabddnaa
open Go.RowKit Go.Maps

theorem ends_at {xs ys : List Int} {k : Nat} (hk : k < xs.length) : (ends xs ys)[k]? = some (gT (fn xs) (fn ys) xs.length k) := by
  unfold ends
  rw [List.getElem?_map, List.getElem?_range hk]
  rfl
theorem ends_get {xs ys : List Int} {k : Nat} {x : Int} (h : (ends xs ys)[k]? = some x) : x = gT (fn xs) (fn ys) xs.length k := by
  have hk := lt_of_some h
  rw [ends_length] at hk
  rw [ends_at hk] at h
  injection h with h
  exact h.symm
theorem su_want {xs ys : List Int} (hR : Right xs ys) {i : Nat} (hi : i ≤ 16) : 0 ≤ su (fn xs) i ∧ su (fn xs) i ≤ 16777216 := by
  have h1 : su (fn xs) i ≤ 1048576 * (i : Int) := su_bound fun k _ => (hR.want0 k).2
  exact ⟨su_nonneg fun k _ => (hR.want0 k).1, by omega⟩
theorem last_end {xs ys : List Int} (hR : Right xs ys) {J : Bool} {S : Int} (hS : S = su (fn xs) xs.length) (h : J = true ↔ (S = 0 ∨ ∃ k, k < xs.length ∧ gT (fn xs) (fn ys) xs.length k = S * fn ys k)) : J = true := by
  rw [h]
  by_cases c : xs.length = 0
  · exact .inl (by rw [hS, c]; rfl)
  · obtain ⟨k, hk, hm⟩ := gT_max (b := fn xs) (v := fn ys) (n := xs.length) (fun j hj => (hR.weight hj).1) (by omega)
    exact .inr ⟨k, hk, by rw [hS]; exact gT_last hm⟩

set_option maxRecDepth 100000 in
set_option maxHeartbeats 16000000 in
theorem gpsLast_law {w : World} {P Q : Option Addr} {xs ys : List Int} (hx : IntsIn w P xs) (hy : IntsIn w Q ys) (cx cy : Nat) :
    Calls Try.prog 4 #[.slice P xs.length cx, .slice Q ys.length cy] w fun e w' => e = .returned (.bool true) ∧ Below w.heap.size w w' := by
  have HA := Lib.hid alive13_any
  have HE := Lib.hid (fun W (hW : Below w.heap.size w W) => end_any (hx.below hW) (hy.below hW) cx cy)
  unfold Got at HE
  rcases end_way xs ys with ⟨h12, he⟩ | ⟨_, hR, he⟩
  · have hE : (wrongL xs ys != 0) = true := by rcases h12 with h | h <;> rw [h] <;> rfl
    rw [he] at HE
    generalize wrongL xs ys = E at *
    clear hx hy h12 he
    generalize xs.length = n at *
    generalize ys.length = m at *
    simp only [List.length_nil] at HE
    go_enter Try.func4, Try.ntmps4
    go_wp2_with fail
    refine (HA.out _).mono ?_
    rintro e w1 ⟨rfl, hb⟩
    have H1 := Lib.hid hb
    clear hb HA
    go_wp2_with fail
    refine (HE.out _ H1.out).mono ?_
    rintro e w2 ⟨R, c, rfl, _, hb⟩
    have H2 := Lib.hid (H1.out.trans (hb.mono H1.out.size))
    clear hb HE H1
    go_wp2_with fail
    go_ret
    exact ⟨rfl, H2.out⟩
  · rw [he] at HE
    obtain ⟨n, hn⟩ : ∃ n, xs.length = n := ⟨_, rfl⟩
    have HRT := Lib.hid hR
    have HPX := Lib.hid (fun W (hW : Below w.heap.size w W) => hx.below hW)
    have HPY := Lib.hid (fun W (hW : Below w.heap.size w W) => hy.below hW)
    have hm : ys.length = n := by rw [hR.len, hn]
    have HN := Lib.hid (And.intro hn hm)
    have h16 : n ≤ 16 := by rw [← hn]; exact hR.few
    simp only [ends_length] at HE
    rw [hn] at HE ⊢
    rw [hm]
    rw [hm] at HE
    have HG : Hid (∀ i, i < n → gT (fn xs) (fn ys) n i ≤ su (fn xs) n * fn ys i ∧ fn xs i * fn ys i ≤ gT (fn xs) (fn ys) n i) := Lib.hid (fun i hi => ⟨gT_le_sum _ _ _ _, gT_own (fun j hj => (hR.want0 j).1) (fun j hj => (hR.weight0 j).1) hi⟩)
    have HL : Hid (∀ (J : Bool) (S : Int), S = su (fn xs) n → (J = true ↔ (S = 0 ∨ ∃ k, k < n ∧ gT (fn xs) (fn ys) n k = S * fn ys k)) → J = true) := Lib.hid (fun J S h1 h2 => last_end (S := S) hR (by rw [hn]; exact h1) (by rw [hn]; exact h2))
    clear hx hy he hR hn hm
    go_enter Try.func4, Try.ntmps4
    go_wp2_with fail
    refine (HA.out _).mono ?_
    rintro e w1 ⟨rfl, hb⟩
    have H1 := Lib.hid hb
    clear hb HA
    go_wp2_with fail
    refine (HE.out _ H1.out).mono ?_
    rintro e w2 ⟨R, c, rfl, hr, hb⟩
    have H2 := Lib.hid (And.intro (H1.out.trans (hb.mono H1.out.size)) hr)
    clear hb HE H1 hr
    have e1 : ((n : Int) != (n : Int)) = false := by simp
    go_wp2_with fail
    clear e1
    go_loopg [7, 39] n (fun z s c wr => ∃ (i : Nat) (S : Int), s = .int .i64 S ∧ c = .int .i64 (i : Int) ∧ i + z = n ∧ wr = w2 ∧ Hid (S = su (fn xs) i))
    case atStart => exact ⟨0, 0, rfl, rfl, by omega, rfl, Lib.hid rfl⟩
    case round =>
      obtain ⟨i, S, rfl, rfl, hik, rfl, HI⟩ := hrel
      cases gk with
      | succ k =>
        have hi : i < n := by omega
        have i1 : (i : Int) < (n : Int) := by omega
        obtain ⟨b0, off, u, rfl, hu, hcu, _⟩ := (HPX.out _ H2.out.1).next (i := i) (by rw [HN.out.1]; exact hi)
        have hfu := fn_at hu
        have hub := HRT.out.want0 i
        have hsb := su_want HRT.out (i := i) (by omega)
        rw [← HI.out] at hsb
        rw [hfu] at hub
        have q1 : wrap64 (S + u) = S + u := IntWalk.wrap64_in _ (by constructor <;> omega)
        have HJ : Hid (S + u = su (fn xs) (i + 1)) := Lib.hid (by rw [su_succ, hfu, ← HI.out])
        have HIK := Lib.hid hik
        clear hu hfu hub hsb HI HRT HPX HPY HN HG HL hik H2
        go_wp2_with fail
        go_roundg k
        case measure => omega
        case rel => exact ⟨i + 1, S + u, by rw [q1], by go_num, by have := HIK.out; omega, rfl, HJ⟩
      | zero =>
        obtain rfl : i = n := by omega
        have hSb := su_want HRT.out h16
        rw [← HI.out] at hSb
        rw [← HI.out] at HG
        have HS := Lib.hid HI.out
        clear HI
        go_wp2_with fail
        go_loopg [10, 51] i (fun z b c wi => ∃ (j : Nat) (J : Bool), b = .bool J ∧ c = .int .i64 (j : Int) ∧ j + z = i ∧ Hid (Below w.heap.size w wi ∧ IntsIn wi R (ends xs ys) ∧ (J = true ↔ (S = 0 ∨ ∃ k, k < j ∧ gT (fn xs) (fn ys) i k = S * fn ys k))))
        case atStart => exact ⟨0, S == 0, rfl, rfl, by omega, Lib.hid ⟨H2.out.1, H2.out.2, by simp⟩⟩
        case round =>
          clear H2
          obtain ⟨j, J, rfl, rfl, hjk, HI⟩ := hrel
          cases gk with
          | zero =>
            obtain rfl : j = i := by omega
            have hJ := HL.out J S HS.out HI.out.2.2
            subst hJ
            have HB := Lib.hid HI.out.1
            clear HI HL HS HG HRT HPX HPY HN
            go_wp2_with fail
            go_ret
            exact ⟨rfl, HB.out⟩
          | succ k =>
            have hj : j < i := by omega
            have j1 : (j : Int) < (i : Int) := by omega
            obtain ⟨b0, o0, u, rfl, hu, hcu, _⟩ := (HPX.out _ HI.out.1).next (i := j) (by rw [HN.out.1]; exact hj)
            obtain ⟨b1, o1, v, rfl, hv, hcv, _⟩ := (HPY.out _ HI.out.1).next (i := j) (by rw [HN.out.2]; exact hj)
            obtain ⟨b2, o2, x, rfl, hxx, hcx, _⟩ := HI.out.2.1.next (i := j) (by rw [ends_length, HN.out.1]; exact hj)
            have hfu := fn_at hu
            have hfv := fn_at hv
            have hfx := ends_get hxx
            rw [HN.out.1] at hfx
            have hub := HRT.out.want0 j
            have hvb := HRT.out.weight0 j
            have hg := HG.out j hj
            rw [hfu] at hub
            rw [hfv] at hvb
            rw [hfu, hfv, ← hfx] at hg
            obtain ⟨A, q1, hA⟩ : ∃ A, IntKind.i64.wrap (S * v) = A ∧ A = S * v := ⟨_, rfl, mul_wrap (by omega) (by omega)⟩
            obtain ⟨B, q2, hB⟩ : ∃ B, IntKind.i64.wrap (u * v) = B ∧ B = u * v := ⟨_, rfl, mul_wrap (by omega) (by omega)⟩
            have g1 : decide (A < x) = false := decide_eq_false (by omega)
            have g2 : decide (x < B) = false := decide_eq_false (by omega)
            have HJ : Hid (∀ J', (J' = true ↔ (J = true ∨ x = A)) → (J' = true ↔ (S = 0 ∨ ∃ k, k < j + 1 ∧ gT (fn xs) (fn ys) i k = S * fn ys k))) := Lib.hid (fun J' h => by
              rw [h, HI.out.2.2]
              constructor
              · rintro ((h | ⟨k, hk, h⟩) | h)
                · exact .inl h
                · exact .inr ⟨k, by omega, h⟩
                · exact .inr ⟨j, by omega, by rw [← hfx, hfv, ← hA, h]⟩
              · rintro (h | ⟨k, hk, h⟩)
                · exact .inl (.inl h)
                · by_cases c : k = j
                  · subst c
                    exact .inr (by rw [← hfx, hfv, ← hA] at h; exact h)
                  · exact .inl (.inr ⟨k, by omega, h⟩))
            have HK := Lib.hid (And.intro HI.out.1 HI.out.2.1)
            have HJK := Lib.hid hjk
            clear hu hv hxx hfu hfv hfx hub hvb hg hA hB HI HRT HPX HPY HN HG HL HS hjk hSb
            go_upto_region 16 with fail
            go_quiet (fail)
            cases J with
            | true =>
              go_wp2_with fail
              go_roundg k
              case measure => omega
              case rel => exact ⟨j + 1, true, rfl, by go_num, by have := HJK.out; omega, Lib.hid ⟨below_drewN HK.out.1 _, HK.out.2.below (below_drewN (Below.refl _ _) _), HJ.out true (by simp)⟩⟩
            | false =>
              go_wp2_with fail
              go_roundg k
              case measure => omega
              case rel => exact ⟨j + 1, x == A, rfl, by go_num, by have := HJK.out; omega, Lib.hid ⟨below_drewN HK.out.1 _, HK.out.2.below (below_drewN (Below.refl _ _) _), HJ.out _ (by simp)⟩⟩
theorem gpsLast_walk {w : World} {P Q : Option Addr} {xs ys : List Int} {n m : Nat} (hx : IntsIn w P xs) (h1 : xs.length = n) (hy : IntsIn w Q ys) (h2 : ys.length = m) (cx cy : Nat) :
    Calls Try.prog 4 #[.slice P n cx, .slice Q m cy] w fun e w' => e = .returned (.bool true) ∧ Below w.heap.size w w' := by
  subst h1 h2
  exact gpsLast_law hx hy cx cy
end Go.Proofs.Ytemoleopabddnaa
