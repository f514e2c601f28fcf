/- With a prefix of no bits each address is found, and who was found ahead of it is found as ahead of it. -/
import Derived.Test.YtcadjgmglaimdaaTr10
import Derived.Test.YtcadjgmglaimdaaTrRow
namespace Go.Proofs.Ytcadjgmglaimdaa
open Go.RowKit Go.Maps

theorem look_snoc (x : Nat) (ps : List Pf) (p : Pf) : lookB x (ps ++ [p]) = pick x (lookB x ps) p := by
  unfold lookB
  rw [List.foldl_append]
  rfl
def pz (t : Int) : Pf := ⟨⟨0, 0, 0, 0⟩, 0, t⟩
theorem pz_in {x : Nat} (hx : x < 4294967296) (t : Int) : within x (pz t) := ⟨⟨by show (0 : Int) ≤ 0; decide, by show (0 : Int) ≤ 32; decide⟩, by
  show top x 0 = top 0 0
  unfold top
  rw [Nat.div_eq_of_lt (by simpa using hx)]⟩
theorem look_ge (x : Nat) (ps : List Pf) : (lookB x ps).1 = -1 ∨ 0 ≤ (lookB x ps).1 := by
  rcases look_best x ps with ⟨h, _⟩ | ⟨p, _, _, hw, h, _⟩
  · exact .inl (by rw [h])
  · exact .inr (by rw [h]; exact hw.1.1)
theorem all_look {x : Nat} (hx : x < 4294967296) (ps : List Pf) (t : Int) : lookIs x (ps ++ [pz t]) = true ∧ (lookIs x ps = true → lookTo x (ps ++ [pz t]) = lookTo x ps) ∧ (lookIs x ps = false → lookTo x (ps ++ [pz t]) = t) := by
  unfold lookIs lookTo
  rw [look_snoc]
  unfold pick
  rcases look_ge x ps with h | h
  · rw [if_pos ⟨by rw [h]; show (-1 : Int) < 0; decide, pz_in hx t⟩]
    exact ⟨rfl, fun k => absurd (of_decide_eq_true k) (by rw [h]; decide), fun _ => rfl⟩
  · rw [if_neg (fun k => by have : (lookB x ps).1 < 0 := k.1; omega)]
    exact ⟨decide_eq_true h, fun _ => rfl, fun k => absurd h (of_decide_eq_false k)⟩
theorem pz_ok (t : Int) : (pz t).ad.Ok := ok_ad (by decide)

/-- What Find told, at an address. -/
theorem Told.cells {w : World} {g h : Nat} {ps : List Pf} {ds : List Ad} (t : Told w g h ps ds ds.length) {i : Nat} (hi : i < ds.length) : ∃ a, ds[i]? = some a ∧ w.cell? ⟨g, i, none⟩ = some (.int .i64 (lookTo a.num ps)) ∧ w.cell? ⟨h, i, none⟩ = some (.bool (lookIs a.num ps)) :=
  ⟨ds[i], List.getElem?_eq_getElem hi, t.at (List.getElem?_eq_getElem hi)⟩

set_option maxRecDepth 100000 in
set_option maxHeartbeats 4000000 in
theorem all_law {w : World} {A D : Option Addr} {ps : List Pf} {ds : List Ad} {len lend cap cad : Nat} (hC : CameP w A cap ps) (hl : ps.length = len) (hD : CameD w D cad ds) (hld : ds.length = lend) (t : Int) :
    Calls Try.prog 8 #[.slice A len cap, .slice D lend cad, .int .i64 t] w fun e w' => e = .returned (.bool true) ∧ Below w.heap.size w w' := by
  subst hl hld
  have H1 := Lib.hid (alive6_any w)
  have hsz := hC.size
  have hdl := hD.lies.len
  have HC := Lib.hid hC
  have HD := Lib.hid hD
  clear hC hD
  have hnl : ps.length * 24 ≤ 140737488355328 := by omega
  obtain ⟨n, hn⟩ : ∃ n, ds.length = n := ⟨_, rfl⟩
  obtain ⟨k, hk⟩ : ∃ k, ps.length = k := ⟨_, rfl⟩
  have HK := Lib.hid (And.intro hn hk)
  rw [hn] at hdl ⊢
  rw [hk] at hsz hnl ⊢
  clear hn hk
  go_enter Try.func8, Try.ntmps8
  go_wp2_with fail
  refine H1.out.mono ?_
  rintro e w1 ⟨rfl, hb1⟩
  have H2 := clone_pfs (HC.out.lies.below hb1) HC.out.nil HC.out.size
  rw [HK.out.2] at H2
  have H2' := Lib.hid H2
  have HB1 := Lib.hid hb1
  clear hb1 H2 H1
  go_wp2_with fail
  refine H2'.out.mono ?_
  rintro e w2 ⟨v, rfl, hown, hb2⟩
  have hb2' := HB1.out.trans (hb2.mono HB1.out.size)
  have hnew : (w2.alloc (.cells #[.int .u8 0, .int .u8 0, .int .u8 0, .int .u8 0, .int .i64 0, .int .i64 t] 26)).heap[w2.heap.size]? = some (.cells (pz t).cells.toArray 26 (0, 0)) := heap_alloc_new w2 _
  have hb3 : Below w2.heap.size w2 (w2.alloc (.cells #[.int .u8 0, .int .u8 0, .int .u8 0, .int .u8 0, .int .i64 0, .int .i64 t] 26)) := (Below.refl _ _).alloc (Nat.le_refl _) _
  obtain ⟨g, cap', W, hr, ho, hbW, _⟩ := pfs_append (hown.below hb3) (Nat.le_trans hb2.size hb3.size) HC.out.size hnew
  have hr2 := hr 22
  have hbW1 : Below w.heap.size w W := hb2'.trans ((hb3.mono hb2'.size).trans (hbW.mono HB1.out.size))
  have hok : ∀ p ∈ ps ++ [pz t], p.ad.Ok := fun p hp => by
    rcases List.mem_append.1 hp with hp | hp
    · exact HC.out.lies.ok p hp
    · obtain rfl : p = pz t := by simpa using hp
      exact pz_ok t
  obtain ⟨A', cap'', e2, hin, hc2⟩ := ho.form hok (by rw [List.length_append, List.length_singleton]; have := HK.out.2; omega)
  injection e2 with e3 e4 e5
  subst e3 e5
  have hF1 := find_any (HC.out.lies.below hbW1) HC.out.room (HD.out.lies.below hbW1) HD.out.room
  have HIN := Lib.hid (And.intro hin (And.intro hc2 hbW1))
  rw [HK.out.1, HK.out.2] at hF1
  rw [HK.out.2] at hr2
  have H3 := Lib.hid hF1
  clear hF1 hin hc2 hbW1 e4 hok ho hbW hr hb3 hnew hb2' hb2 hown H2' HB1
  go_wp2_with (at_builtin; refine wpList_append_eq rfl (.tmp 18) (.tmp 21) 22 22 rfl rfl rfl hr2 ?_)
  refine H3.out.mono ?_
  intro e w4 hF
  have hb4 := hF.1
  have hbw4 := HIN.out.2.2.trans (hb4.mono HIN.out.2.2.size)
  have hF2 := find_any (HIN.out.1.below hb4) HIN.out.2.1 (HD.out.lies.below hbw4) HD.out.room
  rw [List.length_append, List.length_singleton, HK.out.1, HK.out.2] at hF2
  have H4 := Lib.hid hF2
  have HB4 := Lib.hid hbw4
  have HF := Lib.hid hF.2
  clear hF2 hbw4 hb4 hF H3 hr2 HC
  rcases HF.out with ⟨h0, rfl⟩ | ⟨h0, g1, h1, rfl, _, _, t1⟩
  · have h0' : (wrong ps != 0) = true := by simpa using h0
    clear HF h0
    generalize wrong ps = E at *
    go_wp2_with fail
    refine H4.out.mono ?_
    intro e w5 hF5
    have HB5 := Lib.hid (HB4.out.trans (hF5.1.mono HB4.out.size))
    rcases hF5.2 with ⟨_, rfl⟩ | ⟨_, g2, h2, rfl, _⟩
    · generalize wrong (ps ++ [pz t]) = E2 at *
      clear hF5
      go_wp2_with fail
      go_ret
      exact ⟨rfl, HB5.out⟩
    · clear hF5
      go_wp2_with fail
      go_ret
      exact ⟨rfl, HB5.out⟩
  · have HT1 := Lib.hid t1
    clear t1 HF h0
    rw [HK.out.1]
    go_wp2_with fail
    refine H4.out.mono ?_
    intro e w5 hF5
    have HB5 := Lib.hid (HB4.out.trans (hF5.1.mono HB4.out.size))
    rcases hF5 with ⟨hb5, ⟨h2, rfl⟩ | ⟨_, g2, h2, rfl, _, _, t2⟩⟩
    · have h2' : (wrong (ps ++ [pz t]) != 0) = true := by simpa using h2
      clear h2
      generalize wrong (ps ++ [pz t]) = E2 at *
      go_wp2_with fail
      go_ret
      exact ⟨rfl, HB5.out⟩
    · have HT : Hid (∀ i, i < n → ∃ (u v : Int) (x : Bool), w5.cell? ⟨g1, i, none⟩ = some (.int .i64 u) ∧ w5.cell? ⟨h1, i, none⟩ = some (.bool x) ∧ w5.cell? ⟨g2, i, none⟩ = some (.int .i64 v) ∧ w5.cell? ⟨h2, i, none⟩ = some (.bool true) ∧ (x = true → v = u) ∧ (x = false → v = t)) := Lib.hid (fun i hi => by
        have hi' : i < ds.length := by have := HK.out.1; omega
        obtain ⟨a, ha, c1, c2⟩ := (HT1.out.below hb5).cells hi'
        obtain ⟨c3, c4⟩ := t2.at ha
        obtain ⟨m1, m2, m3⟩ := all_look (HD.out.lies.ok a (List.mem_of_getElem? ha)).lt ps t
        rw [m1] at c4
        exact ⟨_, _, _, c1, c2, c3, c4, m2, m3⟩)
      clear HT1 t2 hb5 H4 HB4 HIN HD
      rw [HK.out.1]
      go_wp2_with fail
      go_loopg [71] n (fun j c wr => ∃ i s : Nat, c = .int .i64 (i : Int) ∧ i + j = n ∧ wr = w5.drewN s)
      case atStart => exact ⟨0, 0, rfl, by omega, rfl⟩
      case round =>
        obtain ⟨i, s, rfl, hik, rfl⟩ := hrel
        cases gk with
        | zero =>
          obtain rfl : i = n := by omega
          go_wp2_with fail
          go_ret
          exact ⟨rfl, below_drewN HB5.out _⟩
        | succ j =>
          have hi : i < n := by omega
          have i1 : (i : Int) < (n : Int) := by omega
          obtain ⟨u, v, x, c1, c2, c3, c4, m1, m2⟩ := HT.out i hi
          cases x with
          | true =>
            obtain rfl := m1 rfl
            clear m1 m2
            go_wp2_with fail
            go_quiet (fail)
            go_wp2_with fail
            go_roundg j
            case measure => omega
            case rel => exact ⟨i + 1, s + nq, by go_num, by omega, rfl⟩
          | false =>
            obtain rfl := m2 rfl
            clear m1 m2
            go_wp2_with fail
            go_quiet (fail)
            go_wp2_with fail
            go_roundg j
            case measure => omega
            case rel => exact ⟨i + 1, s + nq, by go_num, by omega, rfl⟩
end Go.Proofs.Ytcadjgmglaimdaa
