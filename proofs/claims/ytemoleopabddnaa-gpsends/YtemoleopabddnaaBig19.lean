/- The reference's Mul: a contract. -/
import Derived.Test.YtemoleopabddnaaBig5a
import Derived.Deep.LoopGhost
import Derived.RegionTactic
import Derived.ChangeAlike
namespace Go.Proofs.Ytemoleopabddnaa
open Go.RowKit

theorem val_upd {n k v : Nat} {h : Nat → Nat} (hk : k < n) : val n (fun j => if j = k then v else h j) + h k * 4294967296 ^ k = val n h + v * 4294967296 ^ k := by
  induction n with
  | zero => omega
  | succ n ih =>
    rcases Nat.lt_or_ge k n with c | c
    · have := ih c
      simp only [val]
      rw [if_neg (by omega)]
      omega
    · obtain rfl : k = n := by omega
      simp only [val, if_true]
      rw [val_put]
      omega

/-- Mul: what stands before a round of the outer loop. -/
structure MulI (w wr : World) (b n m : Nat) (f g : Nat → Nat) (i : Nat) (h : Nat → Nat) : Prop where
  row : wr.rowIs b 62 (n + m) (fun j => .int .u32 (h j))
  small : Small (n + m) h
  zero : ∀ j, i + m ≤ j → h j = 0
  sum : val (n + m) h = val i f * val m g
  below : Below w.heap.size w wr
/-- Mul: what stands before a round of the inner loop. -/
structure MulJ (w wr : World) (b n m : Nat) (f g : Nat → Nat) (i j c : Nat) (h : Nat → Nat) : Prop where
  row : wr.rowIs b 62 (n + m) (fun j => .int .u32 (h j))
  small : Small (n + m) h
  zero : ∀ j, i + m ≤ j → h j = 0
  c1 : c < 4294967296
  sum : val (n + m) h + c * 4294967296 ^ (i + j) = val i f * val m g + f i * val j g * 4294967296 ^ i
  below : Below w.heap.size w wr
theorem MulI.inner {w wr : World} {b n m : Nat} {f g : Nat → Nat} {i : Nat} {h : Nat → Nat} (I : MulI w wr b n m f g i h) : MulJ w wr b n m f g i 0 0 h :=
  ⟨I.row, I.small, I.zero, by decide, by rw [I.sum]; simp [val], I.below⟩
theorem mul_bound {a b c d : Nat} (ha : a < 4294967296) (hb : b < 4294967296) (hc : c < 4294967296) (hd : d < 4294967296) : a * b < 18446744073709551616 ∧ a * b + d < 18446744073709551616 ∧ c + (a * b + d) < 18446744073709551616 := by
  have := Nat.mul_le_mul (show a ≤ 4294967295 by omega) (show b ≤ 4294967295 by omega)
  omega
theorem MulJ.put {w wr : World} {b n m : Nat} {f g : Nat → Nat} {i j c : Nat} {h : Nat → Nat} (I : MulJ w wr b n m f g i j c h) (hi : i < n) (hj : j < m) {T : Nat} (hT : T = c + (f i * g j + h (i + j))) (hlt : T < 18446744073709551616) {V : Int} (hV : V = ((T % 4294967296 : Nat) : Int)) (hb : w.heap.size ≤ b) :
    MulJ w (wr.setCell ⟨b, i + j, none⟩ (.int .u32 V)) b n m f g i (j + 1) (T / 4294967296) (fun t => if t = i + j then T % 4294967296 else h t) := by
  refine ⟨row_put I.row (i + j) _ hV, ?_, ?_, by omega, ?_, I.below.setCell hb _⟩
  · intro t ht
    dsimp only
    split
    · omega
    · exact I.small t ht
  · intro t ht
    rw [if_neg (by omega)]
    exact I.zero t ht
  · have e := I.sum
    have u := val_upd (n := n + m) (k := i + j) (v := T % 4294967296) (h := h) (by omega)
    have d := digit_step (i + j) T 0
    rw [show i + (j + 1) = i + j + 1 by omega]
    have p : f i * val (j + 1) g * 4294967296 ^ i = f i * val j g * 4294967296 ^ i + f i * g j * 4294967296 ^ (i + j) := by
      rw [Nat.pow_add]
      simp only [val]
      rw [Nat.mul_add, Nat.add_mul]
      congr 1
      ac_rfl
    rw [p]
    have q : T * 4294967296 ^ (i + j) = c * 4294967296 ^ (i + j) + (f i * g j * 4294967296 ^ (i + j) + h (i + j) * 4294967296 ^ (i + j)) := by rw [hT, Nat.add_mul, Nat.add_mul]
    omega
theorem MulJ.last {w wr : World} {b n m : Nat} {f g : Nat → Nat} {i c : Nat} {h : Nat → Nat} (I : MulJ w wr b n m f g i m c h) (hi : i < n) (hb : w.heap.size ≤ b) {V : Int} (hV : V = (c : Int)) :
    MulI w (wr.setCell ⟨b, i + m, none⟩ (.int .u32 V)) b n m f g (i + 1) (fun t => if t = i + m then c else h t) := by
  have c1 := I.c1
  refine ⟨row_put I.row (i + m) _ hV, ?_, ?_, ?_, I.below.setCell hb _⟩
  · intro t ht
    dsimp only
    split
    · omega
    · exact I.small t ht
  · intro t ht
    rw [if_neg (by omega)]
    exact I.zero t (by omega)
  · have e := I.sum
    have u := val_upd (n := n + m) (k := i + m) (v := c) (h := h) (by omega)
    rw [I.zero (i + m) (by omega), Nat.zero_mul, Nat.add_zero] at u
    rw [u, e]
    simp only [val]
    rw [Nat.add_mul]
    congr 1
    ac_rfl
theorem MulI.start (w : World) (n m : Nat) (f g : Nat → Nat) : MulI w (w.alloc (.cells (madeCells #[.int .u32 0] (n + m)) 62)) w.heap.size n m f g 0 (fun _ => 0) :=
  ⟨World.rowIs_made w _ _ _, fun _ _ => (by decide : (0 : Nat) < 4294967296), fun _ _ => rfl, by simp [val, val_const0], (Below.refl _ _).alloc (Nat.le_refl _) _⟩
theorem MulI.drewN {w wr : World} {b n m : Nat} {f g : Nat → Nat} {i : Nat} {h : Nat → Nat} (I : MulI w wr b n m f g i h) (k : Nat) : MulI w (wr.drewN k) b n m f g i h :=
  ⟨I.row, I.small, I.zero, I.sum, ⟨I.below.os, I.below.tape, I.below.output, I.below.size, I.below.block⟩⟩

theorem sg_mul (s s' : Bool) (X Y : Nat) : sg s X * sg s' Y = sg (!(s == s')) (X * Y) := by
  cases s <;> cases s' <;> simp [sg, Int.neg_mul, Int.mul_neg]

set_option maxRecDepth 100000 in
set_option maxHeartbeats 4000000 in
theorem mul_int (gz gx gy : Nat) (x y : Int) (w : World) (hz : Room w gz) (hx : IntAt w gx x) (hy : IntAt w gy y) (hv : Fits (x * y).natAbs) :
    Calls Try.prog 42 #[.pointer (some ⟨gz, 0, none⟩), .pointer (some ⟨gx, 0, none⟩), .pointer (some ⟨gy, 0, none⟩)] w fun e w' =>
      e = .returned (.pointer (some ⟨gz, 0, none⟩)) ∧ w.grownBy w' (some gz) ∧ IntAt w' gz (x * y) := by
  obtain ⟨s, A, n, c, f, hg, h1, h2, hd, hs, ht, hz1, rfl⟩ := hx
  obtain ⟨s', A', m, c', f', hg', h1', h2', hd', hs', ht', hz1', rfl⟩ := hy
  rw [sg_mul] at hv ⊢
  rw [sg_abs] at hv
  have hn := h2.2
  have hm := h2'.2
  have c0 : w.cell? ⟨gx, 0, none⟩ = some (.bool s) := hg.cell (by decide)
  have c1 : w.cell? ⟨gx, 1, none⟩ = some (.slice A n c) := hg.cell (by decide)
  have d0 : w.cell? ⟨gy, 0, none⟩ = some (.bool s') := hg'.cell (by decide)
  have d1 : w.cell? ⟨gy, 1, none⟩ = some (.slice A' m c') := hg'.cell (by decide)
  have lx := hg.lt
  have ly := hg'.lt
  have lz := hz.lt
  obtain ⟨h0, hz0⟩ := hz
  have z0 := hz0.cell (i := 0) (by decide)
  have z1 := hz0.cell (i := 1) (by decide)
  have y0 := hz0.frozen 0
  have y1 := hz0.frozen 1
  have hmk := run_make_row' (P := Try.prog) 43 62 (.int .u32 0) 4 Try.underlying43 (by kernel_rfl) rfl .i64 .i64 (n + m) (by omega) (by omega)
  have ec : ((n + m : Nat) : Int) = (n : Int) + m := by omega
  rw [ec] at hmk
  clear ec
  go_enter Try.func42, Try.ntmps42
  go_wp2_with fail
  go_region
  go_wp2_with fail
  go_loopw [30] (fun iv wr => ∃ (i : Nat) (h : Nat → Nat), i ≤ n ∧ iv = .int .i64 i ∧ MulI w wr w.heap.size n m f f' i h) (fun iv _ => n - (intOf iv).toNat)
  case atStart => exact ⟨0, _, Nat.zero_le _, rfl, (MulI.start w n m f f').drewN 1⟩
  case round =>
    obtain ⟨i, h, hi, rfl, hI⟩ := hrel
    have HI := Lib.hid hI
    have hbw := hI.below
    clear hI
    have b1 : _ := (hbw.cell (p := ⟨gy, 1, none⟩) ly).trans d1
    by_cases hlk : i < n
    · obtain ⟨ba, rfl⟩ := hd.addr (by omega)
      have hxa := ((hd.below hbw).cell hlk).1
      have hxs := hs i hlk
      go_wp2_with fail
      go_loopw [10, 40] (fun cv jv wr => ∃ (j cy : Nat) (h : Nat → Nat), j ≤ m ∧ jv = .int .i64 j ∧ cv = .int .u64 cy ∧ MulJ w wr w.heap.size n m f f' i j cy h) (fun _ jv _ => m - (intOf jv).toNat)
      case atStart => exact ⟨0, 0, h, Nat.zero_le _, rfl, rfl, HI.out.inner⟩
      case round =>
        obtain ⟨j, cy, h, hj, rfl, rfl, hJ⟩ := hrel
        have HJ := Lib.hid hJ
        have hc1 := hJ.c1
        have hbj := hJ.below
        have b2 := (hbj.cell (p := ⟨gy, 1, none⟩) ly).trans d1
        by_cases hlj : j < m
        · obtain ⟨bb, rfl⟩ := hd'.addr (by omega)
          have hya := ((hd'.below hbj).cell hlj).1
          have hys := hs' j hlj
          have hca := hJ.row.cell (i := i + j) (by omega)
          have hfz := hJ.row.frozen (i + j)
          have hsm := hJ.small (i + j) (by omega)
          clear hJ
          obtain ⟨m1, m2, m3⟩ := mul_bound hxs hys hc1 hsm
          obtain ⟨P, hP⟩ : ∃ P, f i * f' j = P := ⟨_, rfl⟩
          rw [hP] at m1 m2 m3
          have e1 : IntKind.u64.wrap ((f i : Int) * (f' j : Int)) = (P : Int) := by
            rw [IntKind.wrap_u64, show (f i : Int) * (f' j : Int) = ((f i * f' j : Nat) : Int) by push_cast; rfl, hP]
            omega
          have HP := Lib.hid hP
          clear hP
          go_wp2_with fail
          go_roundw
          case rel => exact ⟨j + 1, (cy + (P + h (i + j))) / 4294967296, _, by omega, by go_num, congrArg (Value.int IntKind.u64) (by omega), HJ.out.put hlk hlj (by rw [HP.out]) m3 (by omega) (Nat.le_refl _)⟩
          case measure => simp [intOf]; omega
        · obtain rfl : j = m := by omega
          have hca := hJ.row.cell (i := i + j) (by omega)
          have hfz := hJ.row.frozen (i + j)
          clear hJ
          go_wp2_with fail
          go_roundw
          case rel => exact ⟨i + 1, _, by omega, by go_num, HJ.out.last hlk (Nat.le_refl _) (by omega)⟩
          case measure => simp [intOf]; omega
    · obtain rfl : i = n := by omega
      have b0 := (hbw.cell (p := ⟨gx, 0, none⟩) lx).trans c0
      have b3 := (hbw.cell (p := ⟨gy, 0, none⟩) ly).trans d0
      have b4 := (hbw.cell (p := ⟨gz, 0, none⟩) lz).trans z0
      have b5 := (hbw.cell (p := ⟨gz, 1, none⟩) lz).trans z1
      have b6 := (hbw.frozen (p := ⟨gz, 0, none⟩) lz).trans y0
      have b7 := (hbw.frozen (p := ⟨gz, 1, none⟩) lz).trans y1
      have hgr := hbw.size
      go_wp2_with fail
      go_region
      all_goals go_wp2_with fail
      all_goals refine (trim_laid w w wr.drew gz w.heap.size (i + m) (i + m) (!(s == s')) h (Below.refl _ _) (below_drewN hbw 1) hz0 HI.out.row (Nat.le_refl _) (by omega) HI.out.small (by rw [HI.out.sum]; exact hv)).mono ?_
      all_goals rintro e w' ⟨rfl, hgr2, hi2⟩
      all_goals go_wp2
      all_goals go_ret
      all_goals exact ⟨rfl, hgr2, by rw [← HI.out.sum]; exact hi2⟩
end Go.Proofs.Ytemoleopabddnaa
