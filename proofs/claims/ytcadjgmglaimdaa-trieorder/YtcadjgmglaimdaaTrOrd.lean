/- In whatever order prefixes stand, the same is told. -/
import Derived.Test.YtcadjgmglaimdaaTrRev
import Derived.Test.YtcadjgmglaimdaaTrRow
namespace Go.Proofs.Ytcadjgmglaimdaa
open Go.RowKit Go.Maps

theorem look_reverse {ps : List Pf} (h : Good ps) (x : Nat) : lookB x ps.reverse = lookB x ps :=
  best_one h (best_perm (fun p => by simp) (look_best x ps.reverse)) (look_best x ps)
theorem wrong_reverse (ps : List Pf) : wrong ps.reverse = 0 ↔ wrong ps = 0 := by rw [wrong_ok, wrong_ok, good_reverse_iff]
noncomputable def toF (ps : List Pf) (ds : List Ad) (j : Nat) : Int := ((ds[j]?).map fun a => lookTo a.num ps).getD 0
noncomputable def isF (ps : List Pf) (ds : List Ad) (j : Nat) : Bool := ((ds[j]?).map fun a => lookIs a.num ps).getD false
theorem Told.rows {w : World} {g h : Nat} {ps : List Pf} {ds : List Ad} (t : Told w g h ps ds ds.length) : (∀ j, j < ds.length → w.cell? ⟨g, j, none⟩ = some (.int .i64 (toF ps ds j))) ∧ (∀ j, j < ds.length → w.cell? ⟨h, j, none⟩ = some (.bool (isF ps ds j))) := by
  have e1 : ∀ j (hj : j < ds.length), toF ps ds j = lookTo ds[j].num ps := fun j hj => by unfold toF; rw [List.getElem?_eq_getElem hj]; rfl
  have e2 : ∀ j (hj : j < ds.length), isF ps ds j = lookIs ds[j].num ps := fun j hj => by unfold isF; rw [List.getElem?_eq_getElem hj]; rfl
  exact ⟨fun j hj => by rw [e1 j hj]; exact (t.at (List.getElem?_eq_getElem hj)).1, fun j hj => by rw [e2 j hj]; exact (t.at (List.getElem?_eq_getElem hj)).2⟩
theorem toF_reverse {ps : List Pf} (h : Good ps) (ds : List Ad) : toF ps.reverse ds = toF ps ds ∧ isF ps.reverse ds = isF ps ds := by
  constructor
  · funext j
    unfold toF lookTo
    simp only [look_reverse h]
  · funext j
    unfold isF lookIs
    simp only [look_reverse h]

set_option maxRecDepth 100000 in
set_option maxHeartbeats 4000000 in
theorem order_law {w : World} {A D : Option Addr} {ps : List Pf} {ds : List Ad} {len lend cap cad : Nat} (hC : CameP w A cap ps) (hl : ps.length = len) (hD : CameD w D cad ds) (hld : ds.length = lend) :
    Calls Try.prog 5 #[.slice A len cap, .slice D lend cad] w fun e w' => e = .returned (.bool true) ∧ Below w.heap.size w w' := by
  subst hl hld
  have H1 := Lib.hid (alive6_any w)
  have HC := Lib.hid hC
  have HD := Lib.hid hD
  have hdl := hD.lies.len
  clear hC hD
  obtain ⟨n, hn⟩ : ∃ n, ds.length = n := ⟨_, rfl⟩
  obtain ⟨k, hk⟩ : ∃ k, ps.length = k := ⟨_, rfl⟩
  have HK := Lib.hid (And.intro hn hk)
  rw [hn] at hdl ⊢
  rw [hk]
  clear hn hk
  go_enter Try.func5, Try.ntmps5
  go_wp2_with fail
  refine H1.out.mono ?_
  rintro e w1 ⟨rfl, hb1⟩
  have H2 := clone_pfs (HC.out.lies.below hb1) HC.out.nil HC.out.size
  rw [HK.out.2] at H2
  have H2' := Lib.hid H2
  have HB1 := Lib.hid hb1
  clear hb1 H2 H1
  go_wp2_with fail
  refine H2'.out.mono ?_
  rintro e w2 ⟨v, rfl, hown, hb2⟩
  have H3 := Lib.hid (reverse_any hown HC.out.size)
  have HB2 := Lib.hid hb2
  clear hown hb2 H2'
  go_wp2_with fail
  refine H3.out.mono ?_
  rintro e w3 ⟨rfl, ho, hb3⟩
  have hbw : Below w.heap.size w w3 := HB1.out.trans ((HB2.out.trans hb3).mono HB1.out.size)
  obtain ⟨A', cap', rfl, hin, hc2⟩ := ho.form (fun p hp => HC.out.lies.ok p (by simpa using hp)) (by rw [List.length_reverse]; have := HC.out.size; omega)
  have hF1 := find_any (HC.out.lies.below hbw) HC.out.room (HD.out.lies.below hbw) HD.out.room
  rw [HK.out.1, HK.out.2] at hF1
  have H4 := Lib.hid hF1
  have HIN := Lib.hid (And.intro hin (And.intro hc2 hbw))
  clear hF1 hin hc2 hbw ho hb3 H3 HB1 HB2
  rw [List.length_reverse, HK.out.2]
  go_wp2_with fail
  refine H4.out.mono ?_
  intro e w4 hF
  have hb4 := hF.1
  have hbw4 := HIN.out.2.2.trans (hb4.mono HIN.out.2.2.size)
  have hF2 := find_any (HIN.out.1.below hb4) HIN.out.2.1 (HD.out.lies.below hbw4) HD.out.room
  rw [List.length_reverse, HK.out.1, HK.out.2] at hF2
  have H5 := Lib.hid hF2
  have HB4 := Lib.hid hbw4
  have HF := Lib.hid hF.2
  clear hF2 hbw4 hb4 hF H4 HC
  rcases HF.out with ⟨h0, rfl⟩ | ⟨h0, g1, h1, rfl, _, _, t1⟩
  · have h0' : (wrong ps != 0) = true := by simpa using h0
    have hr0 : wrong ps.reverse ≠ 0 := fun h => h0 ((wrong_reverse ps).1 h)
    clear HF h0
    generalize wrong ps = E at *
    go_wp2_with fail
    refine H5.out.mono ?_
    intro e w5 hF5
    have HB5 := Lib.hid (HB4.out.trans (hF5.1.mono HB4.out.size))
    rcases hF5.2 with ⟨_, rfl⟩ | ⟨hz, _⟩
    · have hr0' : (wrong ps.reverse != 0) = true := by simpa using hr0
      clear hF5 hr0
      generalize wrong ps.reverse = E2 at *
      go_wp2_with fail
      go_ret
      exact ⟨rfl, HB5.out⟩
    · exact absurd hz hr0
  · have HT1 := Lib.hid t1
    have hG := (wrong_ok ps).1 h0
    have hr0 := (wrong_reverse ps).2 h0
    have HE := Lib.hid (toF_reverse hG ds)
    clear t1 HF h0 hG
    rw [HK.out.1]
    go_wp2_with fail
    refine H5.out.mono ?_
    intro e w5 hF5
    have HB5 := Lib.hid (HB4.out.trans (hF5.1.mono HB4.out.size))
    rcases hF5 with ⟨hb5, ⟨h2, _⟩ | ⟨_, g2, h2, rfl, _, _, t2⟩⟩
    · exact absurd hr0 h2
    · obtain ⟨m1, m2⟩ := (HT1.out.below hb5).rows
      obtain ⟨m3, m4⟩ := t2.rows
      rw [HE.out.1] at m3
      rw [HE.out.2] at m4
      rw [HK.out.1] at m1 m2 m3 m4
      have H6 := Lib.hid (equal_ints (c1 := n) (c2 := n) _ m1 m3 hdl)
      have H7 := Lib.hid (fun k => equal_bools (w := w5.drewN k) (c1 := n) (c2 := n) _ m2 m4 hdl)
      clear m1 m2 m3 m4 t2 HT1 hb5 H5 HB4 HIN HD HE hr0
      rw [HK.out.1]
      go_wp2_with fail
      refine H6.out.mono ?_
      rintro e w6 ⟨rfl, k6, rfl⟩
      go_wp2_with fail
      refine (H7.out _).mono ?_
      rintro e w7 ⟨rfl, k7, rfl⟩
      go_wp2_with fail
      go_ret
      exact ⟨rfl, below_drewN HB5.out _⟩
end Go.Proofs.Ytcadjgmglaimdaa
