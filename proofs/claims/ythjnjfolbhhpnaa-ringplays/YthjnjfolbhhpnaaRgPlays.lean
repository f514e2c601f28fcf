/- ring.Play answers as the reference does: the walk. -/
import Derived.Test.YthjnjfolbhhpnaaRg10
import Derived.Test.YthjnjfolbhhpnaaRg11
namespace Go.Proofs.Ythjnjfolbhhpnaa
open Go.RowKit Go.Maps

theorem played_bounds (most mb : Int) (os : List (Int × Int)) : (played most mb os).1.length ≤ os.length ∧ (played most mb os).2.1.has.length ≤ 400 := by
  unfold played
  split
  · rename_i h
    exact ⟨plays_len _ _ _, (plays_ok h os).small⟩
  · exact ⟨Nat.zero_le _, Nat.zero_le _⟩

set_option maxRecDepth 100000 in
set_option maxHeartbeats 4000000 in
theorem plays_law {w : World} {A : Option Addr} {os : List (Int × Int)} {n : Nat} (hO : OpsIn w A os) (hn : os.length = n) (cap : Nat) (most mb : Int) :
    Calls Try.prog 4 #[.int .i64 most, .int .i64 mb, .slice A n cap] w fun e w' => e = .returned (.bool true) ∧ Below w.heap.size w w' := by
  have HP := Lib.hid (play_any hO hn cap most mb)
  have HQ := Lib.hid (fun W hW => hPlay_any (hO.below (w' := W) hW) hn cap most mb)
  have hlen := hO.len
  rw [hn] at hlen
  have HB := Lib.hid (played_bounds most mb os)
  rw [hn] at HB
  clear hO hn
  generalize played most mb os = X at *
  obtain ⟨outs, q, E⟩ := X
  dsimp only at *
  have hE : (E == E) = true := by simp
  go_enter Try.func4, Try.ntmps4
  go_wp2_with fail
  refine HP.out.mono ?_
  rintro e w1 ⟨R, cR, A1, c1, rfl, hR, hA, hb⟩
  dsimp only at hR hA
  have bo : Below w1.heap.size w1 (w1.alloc (.cells (q.cells A1 c1) 24)) := (Below.refl _ _).alloc (Nat.le_refl _) _
  have HQ2 := Lib.hid (HQ.out _ (hb.trans (bo.mono hb.size)))
  have H1 := Lib.hid (And.intro (hR.below bo) (And.intro (hA.below bo) (And.intro (QuAt.new w1 q A1 c1) (hb.trans (bo.mono hb.size)))))
  clear hR hA hb bo HP HQ
  unfold Qu.cells at *
  go_upto_region 2 with fail
  generalize w1.alloc (.cells #[.slice A1 q.has.length c1, .int .i64 q.most, .int .i64 q.mb, .int .i64 q.dr] 24) = w2 at *
  go_wp2_with fail
  refine HQ2.out.mono ?_
  rintro e w3 ⟨R2, cR2, A2, c2, rfl, hR2, hA2, hb2⟩
  dsimp only at hR2 hA2
  have bo : Below w3.heap.size w3 (w3.alloc (.cells (q.cells A2 c2) 24)) := (Below.refl _ _).alloc (Nat.le_refl _) _
  have hb3 := hb2.trans (bo.mono hb2.size)
  have hq1 := H1.out.2.2.1.below hb3
  have hq2 := QuAt.new w3 q A2 c2
  have hEq := equal_any (w := w3.alloc (.cells (q.cells A2 c2) 24)) (xs := outs) (ys := outs) ((H1.out.1.below hb3).ints (by have := HB.out.1; omega)) ((hR2.below bo).ints (by have := HB.out.1; omega)) cR cR2
  rw [show decide (outs = outs) = true from decide_eq_true rfl] at hEq
  have HE := Lib.hid hEq
  have HS := Lib.hid (fun k => same_any (w := (w3.alloc (.cells (q.cells A2 c2) 24)).drewN k) (q := q) (A1 := A1) (A2 := A2) (((H1.out.2.1.below hb3).ints (by have := HB.out.2; omega)).below ⟨rfl, rfl, rfl, Nat.le_refl _, fun _ _ => rfl⟩) (((hA2.below bo).ints (by have := HB.out.2; omega)).below ⟨rfl, rfl, rfl, Nat.le_refl _, fun _ _ => rfl⟩) c1 c2)
  have HW := Lib.hid (H1.out.2.2.2.trans (hb3.mono H1.out.2.2.2.size))
  obtain ⟨x0, x1, x2, x3⟩ := hq1.cells
  obtain ⟨y0, y1, y2, y3⟩ := hq2.cells
  clear hR2 hA2 hb2 bo hb3 hq1 hq2 H1 HQ2 hEq
  unfold Qu.cells at *
  go_upto_region 3 with fail
  generalize w3.alloc (.cells #[.slice A2 q.has.length c2, .int .i64 q.most, .int .i64 q.mb, .int .i64 q.dr] 24) = w4 at *
  go_wp2_with fail
  refine HE.out.mono ?_
  rintro e w5 ⟨rfl, k, rfl⟩
  go_wp2_with fail
  refine (HS.out k).mono ?_
  rintro e w6 ⟨rfl, hb⟩
  have HZ := Lib.hid (HW.out.trans (Below.mono (show Below w4.heap.size w4 w6 from ⟨hb.os, hb.tape, hb.output, hb.size, hb.block⟩) HW.out.size))
  clear hb HS HE
  go_wp2_with fail
  go_ret
  exact ⟨rfl, HZ.out⟩
end Go.Proofs.Ythjnjfolbhhpnaa
