/- GpsWhole: in one piece nobody is done later. -/
import Derived.Test.YtemoleopabddnaaGpLast
namespace Go.Proofs.Ytemoleopabddnaa
open Go.RowKit Go.Maps

theorem map_get {n k : Nat} {h : Nat → Int} {x : Int} (e : ((List.range n).map h)[k]? = some x) : k < n ∧ x = h k := by
  rw [List.getElem?_map, Option.map_eq_some_iff] at e
  obtain ⟨j, hj, rfl⟩ := e
  obtain ⟨hk, rfl⟩ := List.getElem?_eq_some_iff.1 hj
  rw [List.length_range] at hk
  rw [List.getElem_range]
  exact ⟨hk, rfl⟩
theorem whole_le {xs ys : List Int} (hR : Right xs ys) {o : Nat → Nat} {h : Nat → Int} (hs : Srt xs ys xs.length o) (hh : ∀ p, p < xs.length → h (o p) = su (fun q => fn xs (o q)) (p + 1)) {k : Nat} (hk : k < xs.length) :
    h k * fn ys k ≤ gT (fn xs) (fn ys) xs.length k ∧ 0 ≤ h k ∧ h k ≤ 16777216 := by
  obtain ⟨p, hp, rfl⟩ := hs.all k hk
  have h16 := hR.few
  have h1 : su (fun q => fn xs (o q)) (p + 1) ≤ 1048576 * ((p + 1 : Nat) : Int) := su_bound fun k _ => (hR.want0 (o k)).2
  rw [hh p hp]
  exact ⟨hs.whole (fun j hj => (hR.weight hj).1) (fun j hj => (hR.want0 j).1) hp, su_nonneg fun k _ => (hR.want0 (o k)).1, by omega⟩

set_option maxRecDepth 100000 in
set_option maxHeartbeats 16000000 in
theorem gpsWhole_law {w : World} {P Q : Option Addr} {xs ys : List Int} (hx : IntsIn w P xs) (hy : IntsIn w Q ys) (cx cy : Nat) :
    Calls Try.prog 6 #[.slice P xs.length cx, .slice Q ys.length cy] w fun e w' => e = .returned (.bool true) ∧ Below w.heap.size w w' := by
  have HA := Lib.hid alive13_any
  have HE := Lib.hid (fun W (hW : Below w.heap.size w W) => end_any (hx.below hW) (hy.below hW) cx cy)
  unfold Got at HE
  rcases end_way xs ys with ⟨h12, he⟩ | ⟨h0, hR, he⟩
  · have hE : (wrongL xs ys != 0) = true := by rcases h12 with h | h <;> rw [h] <;> rfl
    have HW := Lib.hid (fun W (hW : Below w.heap.size w W) => whole_no (hx.below hW) (hy.below hW) rfl h12 cx cy)
    unfold Got at HW
    rw [he] at HE
    generalize wrongL xs ys = E at *
    clear hx hy h12 he
    generalize xs.length = n at *
    generalize ys.length = m at *
    simp only [List.length_nil] at HE HW
    go_enter Try.func6, Try.ntmps6
    go_wp2_with fail
    refine (HA.out _).mono ?_
    rintro e w1 ⟨rfl, hb⟩
    have H1 := Lib.hid hb
    clear hb HA
    go_wp2_with fail
    refine (HE.out _ H1.out).mono ?_
    rintro e w2 ⟨R, c, rfl, _, hb⟩
    have H2 := Lib.hid (H1.out.trans (hb.mono H1.out.size))
    clear hb HE H1
    go_wp2_with fail
    refine (HW.out _ H2.out).mono ?_
    rintro e w3 ⟨R3, c3, rfl, _, hb⟩
    have H3 := Lib.hid (H2.out.trans (hb.mono H2.out.size))
    clear hb HW H2
    go_wp2_with fail
    go_ret
    exact ⟨rfl, H3.out⟩
  · rw [he] at HE
    have HW := Lib.hid (fun W (hW : Below w.heap.size w W) => whole_ok (hx.below hW) (hy.below hW) hR h0 cx cy)
    unfold Wholed Got at HW
    obtain ⟨n, hn⟩ : ∃ n, xs.length = n := ⟨_, rfl⟩
    have HRT := Lib.hid hR
    have HPY := Lib.hid (fun W (hW : Below w.heap.size w W) => hy.below hW)
    have hm : ys.length = n := by rw [hR.len, hn]
    have HN := Lib.hid (And.intro hn hm)
    have h16 : n ≤ 16 := by rw [← hn]; exact hR.few
    simp only [ends_length, List.length_map, List.length_range] at HE HW
    have HLE := Lib.hid (fun o h (hs : Srt xs ys xs.length o) hh k (hk : k < xs.length) => whole_le hR hs (h := h) hh hk)
    rw [hn] at HE HW HLE ⊢
    rw [hm]
    rw [hm] at HE HW
    clear hx hy he hR hn hm h0
    go_enter Try.func6, Try.ntmps6
    go_wp2_with fail
    refine (HA.out _).mono ?_
    rintro e w1 ⟨rfl, hb⟩
    have H1 := Lib.hid hb
    clear hb HA
    go_wp2_with fail
    refine (HE.out _ H1.out).mono ?_
    rintro e w2 ⟨R, c, rfl, hr, hb⟩
    have H2 := Lib.hid (And.intro (H1.out.trans (hb.mono H1.out.size)) hr)
    clear hb HE H1 hr
    go_wp2_with fail
    refine (HW.out _ H2.out.1).mono ?_
    rintro e w3 ⟨o, h, hs, hh, T, cT, rfl, hr, hb⟩
    have H3 := Lib.hid (And.intro (H2.out.1.trans (hb.mono H2.out.1.size)) (And.intro (H2.out.2.below hb) hr))
    have HG := Lib.hid (fun k hk => HLE.out o h hs hh k hk)
    clear hb HW H2 hr hs hh HLE
    have e1 : ((n : Int) != (n : Int)) = false := by simp
    go_wp2_with fail
    clear e1
    go_loopg [52] n (fun z c wr => ∃ (j t : Nat), c = .int .i64 (j : Int) ∧ j + z = n ∧ wr = w3.drewN t)
    case atStart => exact ⟨0, 0, rfl, by omega, rfl⟩
    case round =>
      obtain ⟨j, t, rfl, hjk, rfl⟩ := hrel
      cases gk with
      | zero =>
        obtain rfl : j = n := by omega
        clear HG HRT HPY HN
        go_wp2_with fail
        go_ret
        exact ⟨rfl, below_drewN H3.out.1 t⟩
      | succ k =>
        have hj : j < n := by omega
        have j1 : (j : Int) < (n : Int) := by omega
        obtain ⟨b0, o0, u, rfl, hu, hcu, _⟩ := H3.out.2.2.next (i := j) (by simpa using hj)
        obtain ⟨b1, o1, v, rfl, hv, hcv, _⟩ := (HPY.out _ H3.out.1).next (i := j) (by rw [HN.out.2]; exact hj)
        obtain ⟨b2, o2, x, rfl, hxx, hcx, _⟩ := H3.out.2.1.next (i := j) (by rw [ends_length, HN.out.1]; exact hj)
        have hfu := (map_get hu).2
        have hfv := fn_at hv
        have hfx := ends_get hxx
        rw [HN.out.1] at hfx
        have hvb := HRT.out.weight0 j
        have hg := HG.out j hj
        rw [hfv] at hvb
        rw [← hfu, hfv, ← hfx] at hg
        obtain ⟨A, q1, hA⟩ : ∃ A, IntKind.i64.wrap (u * v) = A ∧ A = u * v := ⟨_, rfl, mul_wrap (by omega) (by omega)⟩
        have g1 : decide (x < A) = false := decide_eq_false (by omega)
        have HJK := Lib.hid hjk
        clear hu hv hxx hfu hfv hfx hvb hg hA HRT HPY HN HG hjk
        go_upto_region 10 with fail
        go_quiet (fail)
        go_wp2_with fail
        go_roundg k
        case measure => omega
        case rel => exact ⟨j + 1, t + nq, by go_num, by have := HJK.out; omega, by first | rfl | rw [World.drewN_drewN]⟩
theorem gpsWhole_walk {w : World} {P Q : Option Addr} {xs ys : List Int} {n m : Nat} (hx : IntsIn w P xs) (h1 : xs.length = n) (hy : IntsIn w Q ys) (h2 : ys.length = m) (cx cy : Nat) :
    Calls Try.prog 6 #[.slice P n cx, .slice Q m cy] w fun e w' => e = .returned (.bool true) ∧ Below w.heap.size w w' := by
  subst h1 h2
  exact gpsWhole_law hx hy cx cy
end Go.Proofs.Ytemoleopabddnaa
