/- GpsShare: each has its part at least. -/
import Derived.Test.YtemoleopabddnaaGpLast
namespace Go.Proofs.Ytemoleopabddnaa
open Go.RowKit Go.Maps

theorem su_weight {xs ys : List Int} (hR : Right xs ys) {i : Nat} (hi : i ≤ 16) : 0 ≤ su (fn ys) i ∧ su (fn ys) i ≤ 16000 := by
  have h1 : su (fn ys) i ≤ 1000 * (i : Int) := su_bound fun k _ => (hR.weight0 k).2
  exact ⟨su_nonneg fun k _ => (hR.weight0 k).1, by omega⟩

set_option maxRecDepth 100000 in
set_option maxHeartbeats 16000000 in
theorem gpsShare_law {w : World} {P Q : Option Addr} {xs ys : List Int} (hx : IntsIn w P xs) (hy : IntsIn w Q ys) (cx cy : Nat) :
    Calls Try.prog 5 #[.slice P xs.length cx, .slice Q ys.length cy] w fun e w' => e = .returned (.bool true) ∧ Below w.heap.size w w' := by
  have HA := Lib.hid alive13_any
  have HE := Lib.hid (fun W (hW : Below w.heap.size w W) => end_any (hx.below hW) (hy.below hW) cx cy)
  unfold Got at HE
  rcases end_way xs ys with ⟨h12, he⟩ | ⟨_, hR, he⟩
  · have hE : (wrongL xs ys != 0) = true := by rcases h12 with h | h <;> rw [h] <;> rfl
    rw [he] at HE
    generalize wrongL xs ys = E at *
    clear hx hy h12 he
    generalize xs.length = n at *
    generalize ys.length = m at *
    simp only [List.length_nil] at HE
    go_enter Try.func5, Try.ntmps5
    go_wp2_with fail
    refine (HA.out _).mono ?_
    rintro e w1 ⟨rfl, hb⟩
    have H1 := Lib.hid hb
    clear hb HA
    go_wp2_with fail
    refine (HE.out _ H1.out).mono ?_
    rintro e w2 ⟨R, c, rfl, _, hb⟩
    have H2 := Lib.hid (H1.out.trans (hb.mono H1.out.size))
    clear hb HE H1
    go_wp2_with fail
    go_ret
    exact ⟨rfl, H2.out⟩
  · rw [he] at HE
    obtain ⟨n, hn⟩ : ∃ n, xs.length = n := ⟨_, rfl⟩
    have HRT := Lib.hid hR
    have HPX := Lib.hid (fun W (hW : Below w.heap.size w W) => hx.below hW)
    have HPY := Lib.hid (fun W (hW : Below w.heap.size w W) => hy.below hW)
    have hm : ys.length = n := by rw [hR.len, hn]
    have HN := Lib.hid (And.intro hn hm)
    have h16 : n ≤ 16 := by rw [← hn]; exact hR.few
    simp only [ends_length] at HE
    rw [hn] at HE ⊢
    rw [hm]
    rw [hm] at HE
    have HG : Hid (∀ i, i < n → gT (fn xs) (fn ys) n i ≤ fn xs i * su (fn ys) n) := Lib.hid (fun i hi => gT_share _ _ _ _)
    clear hx hy he hR hn hm
    go_enter Try.func5, Try.ntmps5
    go_wp2_with fail
    refine (HA.out _).mono ?_
    rintro e w1 ⟨rfl, hb⟩
    have H1 := Lib.hid hb
    clear hb HA
    go_wp2_with fail
    refine (HE.out _ H1.out).mono ?_
    rintro e w2 ⟨R, c, rfl, hr, hb⟩
    have H2 := Lib.hid (And.intro (H1.out.trans (hb.mono H1.out.size)) hr)
    clear hb HE H1 hr
    have e1 : ((n : Int) != (n : Int)) = false := by simp
    go_wp2_with fail
    clear e1
    go_loopg [7, 33] n (fun z s c wr => ∃ (i : Nat) (S : Int), s = .int .i64 S ∧ c = .int .i64 (i : Int) ∧ i + z = n ∧ wr = w2 ∧ Hid (S = su (fn ys) i))
    case atStart => exact ⟨0, 0, rfl, rfl, by omega, rfl, Lib.hid rfl⟩
    case round =>
      obtain ⟨i, S, rfl, rfl, hik, rfl, HI⟩ := hrel
      cases gk with
      | succ k =>
        have hi : i < n := by omega
        have i1 : (i : Int) < (n : Int) := by omega
        obtain ⟨b0, off, u, rfl, hu, hcu, _⟩ := (HPY.out _ H2.out.1).next (i := i) (by rw [HN.out.2]; exact hi)
        have hfu := fn_at hu
        have hub := HRT.out.weight0 i
        have hsb := su_weight HRT.out (i := i) (by omega)
        rw [← HI.out] at hsb
        rw [hfu] at hub
        have q1 : wrap64 (S + u) = S + u := IntWalk.wrap64_in _ (by constructor <;> omega)
        have HJ : Hid (S + u = su (fn ys) (i + 1)) := Lib.hid (by rw [su_succ, hfu, ← HI.out])
        have HIK := Lib.hid hik
        clear hu hfu hub hsb HI HRT HPX HPY HN HG hik H2
        go_wp2_with fail
        go_roundg k
        case measure => omega
        case rel => exact ⟨i + 1, S + u, by rw [q1], by go_num, by have := HIK.out; omega, rfl, HJ⟩
      | zero =>
        obtain rfl : i = n := by omega
        have hSb := su_weight HRT.out h16
        rw [← HI.out] at hSb
        rw [← HI.out] at HG
        clear HI
        go_wp2_with fail
        go_loopg [43] i (fun z c wi => ∃ j : Nat, c = .int .i64 (j : Int) ∧ j + z = i ∧ wi = wr)
        case atStart => exact ⟨0, rfl, by omega, rfl⟩
        case round =>
          obtain ⟨j, rfl, hjk, rfl⟩ := hrel
          cases gk with
          | zero =>
            obtain rfl : j = i := by omega
            clear HG HRT HPX HPY HN
            go_wp2_with fail
            go_ret
            exact ⟨rfl, H2.out.1⟩
          | succ k =>
            have hj : j < i := by omega
            have j1 : (j : Int) < (i : Int) := by omega
            obtain ⟨b0, o0, u, rfl, hu, hcu, _⟩ := (HPX.out _ H2.out.1).next (i := j) (by rw [HN.out.1]; exact hj)
            obtain ⟨b2, o2, x, rfl, hxx, hcx, _⟩ := H2.out.2.next (i := j) (by rw [ends_length, HN.out.1]; exact hj)
            have hfu := fn_at hu
            have hfx := ends_get hxx
            rw [HN.out.1] at hfx
            have hub := HRT.out.want0 j
            have hg := HG.out j hj
            rw [hfu] at hub
            rw [hfu, ← hfx] at hg
            have hm0 := Int.mul_nonneg hub.1 hSb.1
            have hm1 : u * S ≤ 1048576 * 16000 := Int.mul_le_mul hub.2 hSb.2 hSb.1 (by decide)
            obtain ⟨A, q1, hA⟩ : ∃ A, wrap64 (u * S) = A ∧ A = u * S := ⟨_, rfl, IntWalk.wrap64_in _ (by constructor <;> omega)⟩
            have g1 : ¬ A < x := by omega
            have HJK := Lib.hid hjk
            clear hu hxx hfu hfx hub hg hA hm0 hm1 HRT HPX HPY HN HG hjk hSb
            go_wp2_with fail
            go_roundg k
            case measure => omega
            case rel => exact ⟨j + 1, by go_num, by have := HJK.out; omega, rfl⟩
theorem gpsShare_walk {w : World} {P Q : Option Addr} {xs ys : List Int} {n m : Nat} (hx : IntsIn w P xs) (h1 : xs.length = n) (hy : IntsIn w Q ys) (h2 : ys.length = m) (cx cy : Nat) :
    Calls Try.prog 5 #[.slice P n cx, .slice Q m cy] w fun e w' => e = .returned (.bool true) ∧ Below w.heap.size w w' := by
  subst h1 h2
  exact gpsShare_law hx hy cx cy
end Go.Proofs.Ytemoleopabddnaa
