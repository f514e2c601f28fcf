/- What came first goes first: the walk of RingOrder. -/
import Derived.Test.YthjnjfolbhhpnaaRg12
import Derived.Test.YthjnjfolbhhpnaaRgOrd
import Derived.Test.YthjnjfolbhhpnaaIn4
namespace Go.Proofs.Ythjnjfolbhhpnaa
open Go.RowKit Go.Maps

theorem played_order (most mb : Int) (os : List (Int × Int)) (hn : os.length ≤ 1048576) :
    ((played most mb os).2.2 = 0 ∧ Kept ((played most mb os).2.1, (played most mb os).1) (came os) os.length ∧ (played most mb os).2.1.right = true) ∨ ((played most mb os).2.2 ≠ 0 ∧ (played most mb os).1 = []) := by
  unfold played
  by_cases h : (Qu.start most mb).right = true
  · rw [if_pos h]
    have := kept_at most mb os hn os.length (Nat.le_refl _)
    rw [List.take_length] at this
    exact .inl ⟨rfl, this, Qu.right_iff.2 (plays_ok h os)⟩
  · rw [if_neg h]
    exact .inr ⟨by decide, rfl⟩
theorem came_len (os : List (Int × Int)) : (came os).length ≤ os.length := by
  unfold came
  rw [List.length_map]
  exact List.length_filter_le _ _
/-- In the loop: how far one is. -/
structure Far (all : List Int) (os : List (Int × Int)) (i kp : Nat) : Prop where
  drop : all.drop kp = (came (os.take i)).foldl strip all
  le : kp ≤ all.length
theorem Far.skip {all : List Int} {os : List (Int × Int)} {i kp : Nat} (h : Far all os i kp) {k n : Int} (ho : os[i]? = some (k, n)) (hc : ¬ (k = 1 ∧ bad n = false)) : Far all os (i + 1) kp ∧ came (os.take (i + 1)) = came (os.take i) := by
  have e := came_snoc ho
  rw [if_neg hc, List.append_nil] at e
  exact ⟨⟨by rw [e]; exact h.drop, h.le⟩, e⟩
theorem Far.step {all : List Int} {os : List (Int × Int)} {i kp : Nat} (h : Far all os i kp) {n : Int} (ho : os[i]? = some (1, n)) (hc : bad n = false) : Far all os (i + 1) (if all[kp]? = some n then kp + 1 else kp) ∧ (came (os.take (i + 1))).length = (came (os.take i)).length + 1 := by
  have e := came_snoc ho
  rw [if_pos ⟨rfl, hc⟩] at e
  obtain ⟨s1, s2⟩ := strip_drop all kp n h.le
  refine ⟨⟨?_, s2⟩, by rw [e, List.length_append]; rfl⟩
  rw [e, List.foldl_append, ← h.drop, List.foldl_cons, List.foldl_nil, s1]

set_option maxRecDepth 100000 in
set_option maxHeartbeats 8000000 in
theorem order_law {w : World} {A : Option Addr} {os : List (Int × Int)} {n : Nat} (hO : OpsIn w A os) (hn : os.length = n) (hsm : n ≤ 1048576) (cap : Nat) (most mb : Int) :
    Calls Try.prog 5 #[.int .i64 most, .int .i64 mb, .slice A n cap] w fun e w' => e = .returned (.bool true) ∧ Below w.heap.size w w' := by
  have HA := Lib.hid (fun W => alive8_any W)
  have HP := Lib.hid (fun W hW => play_any (hO.below (w' := W) hW) hn cap most mb)
  have HOr := Lib.hid (played_order most mb os (by omega))
  have HO := Lib.hid hO
  have HN := Lib.hid hn
  clear hO hn
  generalize played most mb os = X at *
  obtain ⟨outs, q, E⟩ := X
  dsimp only at HOr
  go_enter Try.func5, Try.ntmps5
  go_wp2_with fail
  refine (HA.out w).mono ?_
  rintro e w1 ⟨rfl, hb⟩
  have HP1 := Lib.hid (HP.out w1 hb)
  have HB1 := Lib.hid hb
  clear hb HA HP
  go_wp2_with fail
  refine HP1.out.mono ?_
  rintro e w2 ⟨R, cR, A1, c1, rfl, hR, hA, hb2⟩
  dsimp only at hR hA
  have bo : Below w2.heap.size w2 (w2.alloc (.cells (q.cells A1 c1) 24)) := (Below.refl _ _).alloc (Nat.le_refl _) _
  have hb3 := hb2.trans (bo.mono hb2.size)
  have HB3 := Lib.hid (HB1.out.trans (hb3.mono HB1.out.size))
  have HF3 := Lib.hid (And.intro (hR.below bo) (hA.below bo))
  have HQ3 := Lib.hid (QuAt.new w2 q A1 c1)
  clear hR hA hb2 bo hb3 HP1 HB1
  unfold Qu.cells at *
  go_upto_region 4 with fail
  generalize w2.alloc (.cells #[.slice A1 q.has.length c1, .int .i64 q.most, .int .i64 q.mb, .int .i64 q.dr] 24) = w3 at *
  generalize w2.heap.size = b8 at *
  by_cases he : E = 0
  · subst he
    have hor : Kept (q, outs) (came os) os.length ∧ q.right = true := by
      rcases HOr.out with h | h
      · exact h.2
      · exact absurd rfl h.1
    have ok := Qu.right_iff.1 hor.2
    have hsmall := ok.small
    have hlo : outs.length ≤ n := by
      have h1 := hor.1.len
      have h2 := came_len os
      have h3 := hor.1.dr.1
      have := HN.out
      dsimp only at h1 h3
      rw [List.length_append] at h1
      omega
    have hI1 := HF3.out.1.ints (by omega)
    have hI2 := HF3.out.2.ints (by omega)
    obtain ⟨x0, x1, x2, x3⟩ := HQ3.out.cells
    have HC := Lib.hid (concat_pair (cap1 := cR) (cap2 := c1) hI1 hI2 (by omega))
    have HK := Lib.hid hor
    have HL := Lib.hid (And.intro hsmall hlo)
    clear hor ok hsmall hlo hI1 hI2 HOr
    go_wp2_with fail
    refine HC.out.mono ?_
    rintro e w4 ⟨A3, c3, rfl, hall, hb4⟩
    have HB4 := Lib.hid (HB3.out.trans (hb4.mono HB3.out.size))
    have HQ4 := Lib.hid (HQ3.out.below hb4)
    have HI4 := Lib.hid (HF3.out.2.below hb4)
    have HALL := Lib.hid (hall.ints (by rw [List.length_append]; have := HL.out.1; have := HL.out.2; omega))
    obtain ⟨all, hal⟩ : ∃ l, outs ++ q.has = l := ⟨_, rfl⟩
    have hla : outs.length + q.has.length = all.length := by rw [← hal, List.length_append]
    rw [hal] at HALL
    have HAL := Lib.hid hal
    clear hall hb4 hal HC HF3 HQ3 x0 x1 x2 x3
    have hlb : all.length ≤ 1048976 := by have := HL.out.1; have := HL.out.2; omega
    rw [hla]
    clear hla
    obtain ⟨la, hla⟩ : ∃ l, all.length = l := ⟨_, rfl⟩
    rw [hla] at hlb ⊢
    have HLA := Lib.hid hla
    clear hla
    go_wp2_with fail
    go_loopg [11, 12, 37] n (fun k v11 v12 c wr => ∃ i kp nc : Nat, c = .int .i64 (i : Int) ∧ i + k = n ∧ v11 = .int .i64 (kp : Int) ∧ v12 = .int .i64 (nc : Int) ∧ Hid (Far all os i kp ∧ (came (os.take i)).length = nc) ∧ Hid (Below w4.heap.size w4 wr))
    case atStart => exact ⟨0, 0, 0, rfl, by omega, rfl, rfl, Lib.hid ⟨⟨rfl, Nat.zero_le _⟩, rfl⟩, Lib.hid (Below.refl _ _)⟩
    case round =>
      obtain ⟨i, kp, nc, rfl, hik, rfl, rfl, HX, HW⟩ := hrel
      cases gk with
      | zero =>
        obtain rfl : i = n := by omega
        have e0 : os.take i = os := List.take_of_length_le (by have := HN.out; omega)
        have hX := HX.out
        rw [e0] at hX
        obtain ⟨hF, hnc⟩ := hX
        have hdrop : all.drop kp = [] := by
          rw [hF.drop, e0]
          exact strip_all _ _ (by rw [← HAL.out]; exact HK.out.1.sub)
        have hkl : kp = la := by
          have h1 := hF.le
          have h2 := congrArg List.length hdrop
          rw [List.length_drop] at h2
          have := HLA.out
          simp only [List.length_nil] at h2
          omega
        subst hkl
        have hlen := HK.out.1.len
        dsimp only at hlen
        rw [HAL.out, HLA.out, hnc] at hlen
        have hdr := HK.out.1.dr
        dsimp only at hdr
        obtain ⟨x0, x1, x2, x3⟩ := (HQ4.out.below HW.out).cells
        have hR : Calls Try.prog 10 #[.agg #[.slice A1 q.has.length c1, .int .i64 q.most, .int .i64 q.mb, .int .i64 q.dr]] wr fun e w' => e = .returned (.bool true) ∧ Below wr.heap.size wr w' := by
          have h := right_any (q := q) ((HI4.out.ints (by have := HL.out.1; omega)).below HW.out) c1
          rw [HK.out.2] at h
          exact h
        have HR := Lib.hid hR
        have hlt := HN.out
        have hd1 := hdr.1
        have hd2 : q.dr ≤ 1048576 := by have := hdr.2; omega
        have hw1 : IntKind.i64.wrap ((kp : Int) + q.dr) = (kp : Int) + q.dr := by simp [IntKind.wrap, IntKind.bits, IntKind.signed]; omega
        have hb1 : ((nc : Int) == (kp : Int) + q.dr) = true := by rw [hlen]; simp
        have HZ := Lib.hid (fun W (hW : Below wr.heap.size wr W) => (HB4.out.trans (HW.out.mono HB4.out.size)).trans (hW.mono (Nat.le_trans HB4.out.size HW.out.size)))
        clear hF hnc hdrop hlen hdr hR e0 HX HW HK HL HQ4 HI4 HALL HAL HLA HO HN hlt HB4 HB3
        go_wp2_with fail
        refine HR.out.mono ?_
        rintro e w6 ⟨rfl, hb6⟩
        have HE := Lib.hid (HZ.out _ hb6)
        clear hb6
        go_wp2_with fail
        go_ret
        exact ⟨rfl, HE.out⟩
      | succ k =>
        have hi : i < n := by omega
        have i1 : (i : Int) < (n : Int) := by omega
        obtain ⟨b, off, kd, x, rfl, ho, hk0, hk1, hbl⟩ := (HO.out.below (HB4.out.trans (HW.out.mono HB4.out.size))).next (i := i) (by have := HN.out; omega)
        by_cases c1 : kd = 1
        · subst c1
          by_cases g1 : x < 1
          · have g1' : decide (x < 1) = true := decide_eq_true g1
            obtain ⟨hF, hce⟩ := HX.out.1.skip ho (fun h => absurd h.2 (by rw [bad_low g1]; decide))
            have HV := Lib.hid (And.intro hF (show (came (os.take (i + 1))).length = nc by rw [hce]; exact HX.out.2))
            clear g1
            clear hF hce ho HX HO hbl
            go_wp2_with fail
            go_roundg k
            case measure => omega
            case rel => exact ⟨i + 1, kp, nc, by go_num, by omega, rfl, rfl, HV, Lib.hid (HW.out.alloc HW.out.size _)⟩
          · have g1' : decide (x < 1) = false := decide_eq_false g1
            by_cases g2 : 1500 < x
            · have g2' : decide (1500 < x) = true := decide_eq_true g2
              obtain ⟨hF, hce⟩ := HX.out.1.skip ho (fun h => absurd h.2 (by rw [bad_high g2]; decide))
              have HV := Lib.hid (And.intro hF (show (came (os.take (i + 1))).length = nc by rw [hce]; exact HX.out.2))
              clear g1 g2
              clear hF hce ho HX HO hbl
              go_wp2_with fail
              go_roundg k
              case measure => omega
              case rel => exact ⟨i + 1, kp, nc, by go_num, by omega, rfl, rfl, HV, Lib.hid (HW.out.alloc HW.out.size _)⟩
            · have hgood : bad x = false := bad_false.2 ⟨by omega, by omega⟩
              obtain ⟨hF, hce⟩ := HX.out.1.step ho hgood
              have hnc : nc ≤ i := by
                rw [← HX.out.2]
                exact Nat.le_trans (came_len _) (by rw [List.length_take]; exact Nat.min_le_left _ _)
              have hkp : kp ≤ la := by rw [← HLA.out]; exact HX.out.1.le
              have hw1 : IntKind.i64.wrap ((nc : Int) + 1) = (nc : Int) + 1 := by simp [IntKind.wrap, IntKind.bits, IntKind.signed]; omega
              have hw2 : IntKind.i64.wrap ((kp : Int) + 1) = (kp : Int) + 1 := by simp [IntKind.wrap, IntKind.bits, IntKind.signed]; omega
              have HV := Lib.hid (And.intro hF (show (came (os.take (i + 1))).length = nc + 1 by rw [hce, HX.out.2]))
              have HWn : Hid (∀ t, Below w4.heap.size w4 ((wr.alloc (.cells #[.int .i64 1, .int .i64 x] 26)).drewN t)) := Lib.hid (fun t => by
                have h := HW.out.alloc HW.out.size (.cells #[.int .i64 1, .int .i64 x] 26)
                exact ⟨h.os, h.tape, h.output, h.size, h.block⟩)
              by_cases hlt : kp < la
              · have hlt' : (kp : Int) < (la : Int) := by omega
                obtain ⟨ba, oa, y, rfl, hy, hya, hbla⟩ := (HALL.out.below (HW.out.alloc HW.out.size (.cells #[.int .i64 1, .int .i64 x] 26) |>.mono (Nat.le_refl _))).next (i := kp) (by have := HLA.out; omega)
                rw [hy] at HV
                by_cases hyx : y = x
                · subst hyx
                  rw [if_pos rfl] at HV
                  clear hF hce ho HX HO hbl hbla hy hgood hlt hnc hkp
                  go_wp2_with fail
                  go_quiet (fail)
                  go_wp2_with fail
                  go_roundg k
                  case measure => omega
                  case rel => exact ⟨i + 1, kp + 1, nc + 1, by go_num, by omega, by go_num, by go_num, HV, Lib.hid (HWn.out _)⟩
                · have hyx' : (y == x) = false := by simpa using hyx
                  rw [if_neg (by simpa using hyx)] at HV
                  clear hF hce ho HX HO hbl hbla hy hgood hlt hnc hkp hyx
                  go_wp2_with fail
                  go_quiet (fail)
                  go_wp2_with fail
                  go_roundg k
                  case measure => omega
                  case rel => exact ⟨i + 1, kp, nc + 1, by go_num, by omega, rfl, by go_num, HV, Lib.hid (HWn.out _)⟩
              · have hlt' : decide (kp < la) = false := decide_eq_false hlt
                rw [List.getElem?_eq_none (by have := HLA.out; omega), if_neg (by simp)] at HV
                clear hF hce ho HX HO hbl hgood hlt hnc hkp
                go_wp2_with fail
                go_quiet (fail)
                go_wp2_with fail
                go_roundg k
                case measure => omega
                case rel => exact ⟨i + 1, kp, nc + 1, by go_num, by omega, rfl, by go_num, HV, Lib.hid (HWn.out _)⟩
        · have c1' : (kd != 1) = true := by simpa using c1
          obtain ⟨hF, hce⟩ := HX.out.1.skip ho (fun h => c1 h.1)
          have HV := Lib.hid (And.intro hF (show (came (os.take (i + 1))).length = nc by rw [hce]; exact HX.out.2))
          clear c1
          clear hF hce ho HX HO hbl
          go_wp2_with fail
          go_roundg k
          case measure => omega
          case rel => exact ⟨i + 1, kp, nc, by go_num, by omega, rfl, rfl, HV, Lib.hid (HW.out.alloc HW.out.size _)⟩
  · have he' : (E != 0) = true := by simpa using he
    have ho : outs = [] := by
      rcases HOr.out with h | h
      · exact absurd h.1 he
      · exact h.2
    subst ho
    clear HOr he
    go_wp2_with fail
    go_ret
    exact ⟨rfl, HB3.out⟩
end Go.Proofs.Ythjnjfolbhhpnaa
