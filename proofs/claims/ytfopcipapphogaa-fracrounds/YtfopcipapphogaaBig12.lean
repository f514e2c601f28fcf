/- The reference's And with a word of ones: a contract. -/
import Derived.Test.YtfopcipapphogaaBig11b
import Derived.Test.YtfopcipapphogaaWide
namespace Go.Proofs.Ytfopcipapphogaa
open Go.RowKit

structure AndInv (w : World) (t : Nat) (f : Nat → Nat) (k : Nat) (h : Nat → Nat) (wr : World) : Prop where
  row : wr.rowIs w.heap.size 81 t (fun j => .int .u32 (h j))
  same : ∀ j, j < k → h j = f j
  below : Below w.heap.size w wr
theorem AndInv.start (w : World) (t : Nat) (f : Nat → Nat) (m : Nat) : AndInv w t f 0 (fun _ => 0) ((w.alloc (.cells (madeCells #[.int .u32 0] t) 81)).drewN m) :=
  ⟨World.rowIs_made w _ _ _, fun j hj => by omega, below_drewN ((Below.refl _ _).alloc (Nat.le_refl _) _) m⟩
theorem AndInv.put {w : World} {t : Nat} {f : Nat → Nat} {k : Nat} {h : Nat → Nat} {wr : World} (I : AndInv w t f k h wr) {V : Int} (hV : V = f k) :
    AndInv w t f (k + 1) (fun j => if j = k then f k else h j) (wr.setCell ⟨w.heap.size, k, none⟩ (.int .u32 V)).drew :=
  ⟨(row_put I.row k _ hV).drew, fun j hj => by
    split
    · subst_vars; rfl
    · exact I.same j (by omega), (I.below.setCell (Nat.le_refl _) _).drew⟩
theorem and_u32 {a : Nat} (ha : a < 4294967296) : bits .and .u32 (a : Int) 4294967295 = (a : Int) := by
  have e : ∀ c : Nat, c < 4294967296 → (BitVec.ofInt 32 (c : Int)).toNat = c := fun c hc => by
    rw [BitVec.ofInt_natCast, BitVec.toNat_ofNat]
    exact Nat.mod_eq_of_lt (by omega)
  show IntKind.u32.wrap ((BitVec.ofInt 32 (a : Int) &&& BitVec.ofInt 32 ((4294967295 : Nat) : Int)).toNat : Int) = _
  rw [BitVec.toNat_and, e a ha, e _ (by decide), show a &&& 4294967295 = a % 4294967296 from Nat.and_two_pow_sub_one_eq_mod a 32, IntKind.wrap_u32]
  omega
theorem mask_dig {f' : Nat → Nat} (h0 : f' 0 = 4294967295) (h1 : f' 1 = 4294967295) {k : Nat} (hk : k < 2) : ((f' k : Nat) : Int) = 4294967295 := by
  have : k = 0 ∨ k = 1 := by omega
  rcases this with rfl | rfl <;> omega

set_option maxRecDepth 100000 in
set_option maxHeartbeats 2000000 in
theorem and_gt (gz gx gy : Nat) (A A' : Option Addr) (n c c' : Nat) (f f' : Nat → Nat) (w : World) (hz : Room w gz) (hg : w.rowIs gx 32 2 (two (.bool false) (.slice A n c))) (hg' : w.rowIs gy 32 2 (two (.bool false) (.slice A' 2 c')))
    (hd : Dig w A n f) (hd' : Dig w A' 2 f') (hs : Small n f) (hn : n ≤ 100000) (hy0 : f' 0 = 4294967295) (hy1 : f' 1 = 4294967295) (hm : 2 < n) :
    Calls Try.prog 56 #[.pointer (some ⟨gz, 0, none⟩), .pointer (some ⟨gx, 0, none⟩), .pointer (some ⟨gy, 0, none⟩)] w fun e w' =>
      e = .returned (.pointer (some ⟨gz, 0, none⟩)) ∧ w.grownBy w' (some gz) ∧ IntAt w' gz (val 2 f : Nat) := by
  have hfit : Fits (val 2 f) := Fits.of (val_lt (hs.le (show 2 ≤ n by omega))) (by show 2 ≤ 100000; omega)
  have hmk := run_make_row' (P := Try.prog) 30 81 (.int .u32 0) 4 Try.underlying30 (by kernel_rfl) rfl .i64 .i64 2 (by omega) (by omega)
  rw [show ((2 : Nat) : Int) = 2 from rfl] at hmk
  have hmn : min (n : Int) 2 = 2 := by omega
  have c1 : w.cell? ⟨gx, 1, none⟩ = some (.slice A n c) := hg.cell (by decide)
  have d1 : w.cell? ⟨gy, 1, none⟩ = some (.slice A' 2 c') := hg'.cell (by decide)
  have lx := hg.lt
  have ly := hg'.lt
  have lz := hz.lt
  obtain ⟨h0, hz0⟩ := hz
  have z0 := hz0.cell (i := 0) (by decide)
  have z1 := hz0.cell (i := 1) (by decide)
  have y0 := hz0.frozen 0
  have y1 := hz0.frozen 1
  have HY0 := Lib.hid hy0
  have HY1 := Lib.hid hy1
  clear hy0 hy1
  go_enter Try.func56, Try.ntmps56
  go_wp2
  go_quiet (fail)
  go_wp2
  go_loopw [25] (fun iv wr => ∃ (k : Nat) (h : Nat → Nat), k ≤ 2 ∧ iv = .int .i64 k ∧ AndInv w 2 f k h wr) (fun iv _ => 2 - (intOf iv).toNat)
  case atStart => exact ⟨0, fun _ => 0, Nat.zero_le _, rfl, AndInv.start w 2 f _⟩
  case round =>
    obtain ⟨k, h, hk, rfl, hI⟩ := hrel
    have HI := Lib.hid hI
    have hbw := hI.below
    by_cases hlk : k < 2
    · have hcl := hI.row.cell (i := k) hlk
      have hfz := hI.row.frozen k
      clear hI
      obtain ⟨b, rfl⟩ := hd.addr (by omega)
      obtain ⟨b', rfl⟩ := hd'.addr (by omega)
      have x1 := (hbw.cell (p := ⟨gx, 1, none⟩) lx).trans c1
      have w1 := (hbw.cell (p := ⟨gy, 1, none⟩) ly).trans d1
      have hx := ((hd.below hbw).cell (j := k) (by omega)).1
      have hy := ((hd'.below hbw).cell (j := k) (by omega)).1
      rw [mask_dig HY0.out HY1.out (show k < 2 by omega)] at hy
      have hxs := hs k (by omega)
      have ea := and_u32 hxs
      have hk0 : (0 : Int) ≤ (k : Int) := by omega
      have hkn : (k : Int) < (n : Int) := by omega
      have hk2 : (k : Int) < 2 := by omega
      go_wp2
      go_region
      all_goals go_wp2
      all_goals go_roundw
      case rel => exact ⟨k + 1, _, by omega, by go_num, HI.out.put (by exact rfl)⟩
      case measure => simp [intOf]; omega
    · have hkn : k = 2 := by omega
      clear hI
      have w0 := (hbw.cell (p := ⟨gz, 0, none⟩) lz).trans z0
      have w2 := (hbw.cell (p := ⟨gz, 1, none⟩) lz).trans z1
      have v0 := (hbw.frozen (p := ⟨gz, 0, none⟩) lz).trans y0
      have v1 := (hbw.frozen (p := ⟨gz, 1, none⟩) lz).trans y1
      have hval : val 2 h = val 2 f := val_congr fun j hj => HI.out.same j (by omega)
      have HV := Lib.hid hval
      clear hval
      go_wp2_with fail
      refine (trim_laid w w wr gz w.heap.size 2 2 false h (Below.refl _ _) hbw hz0 HI.out.row (Nat.le_refl _) (by omega) (fun j hj => by rw [HI.out.same j (by omega)]; exact hs j (by omega)) (by rw [HV.out]; exact hfit)).mono ?_
      rintro e w' ⟨rfl, hgr, hi⟩
      go_wp2
      go_ret
      rw [HV.out] at hi
      exact ⟨rfl, hgr, hi⟩
set_option maxRecDepth 100000 in
set_option maxHeartbeats 2000000 in
theorem and_le (gz gx gy : Nat) (A A' : Option Addr) (n c c' : Nat) (f f' : Nat → Nat) (w : World) (hz : Room w gz) (hg : w.rowIs gx 32 2 (two (.bool false) (.slice A n c))) (hg' : w.rowIs gy 32 2 (two (.bool false) (.slice A' 2 c')))
    (hd : Dig w A n f) (hd' : Dig w A' 2 f') (hs : Small n f) (hn : n ≤ 100000) (hy0 : f' 0 = 4294967295) (hy1 : f' 1 = 4294967295) (hm : n ≤ 2) :
    Calls Try.prog 56 #[.pointer (some ⟨gz, 0, none⟩), .pointer (some ⟨gx, 0, none⟩), .pointer (some ⟨gy, 0, none⟩)] w fun e w' =>
      e = .returned (.pointer (some ⟨gz, 0, none⟩)) ∧ w.grownBy w' (some gz) ∧ IntAt w' gz (val n f : Nat) := by
  have hfit : Fits (val n f) := Fits.of (val_lt (hs.le (show n ≤ n by omega))) (by show n ≤ 100000; omega)
  have hmk := run_make_row' (P := Try.prog) 30 81 (.int .u32 0) 4 Try.underlying30 (by kernel_rfl) rfl .i64 .i64 n (by omega) (by omega)
  have hmn : min (n : Int) 2 = (n : Int) := by omega
  have c1 : w.cell? ⟨gx, 1, none⟩ = some (.slice A n c) := hg.cell (by decide)
  have d1 : w.cell? ⟨gy, 1, none⟩ = some (.slice A' 2 c') := hg'.cell (by decide)
  have lx := hg.lt
  have ly := hg'.lt
  have lz := hz.lt
  obtain ⟨h0, hz0⟩ := hz
  have z0 := hz0.cell (i := 0) (by decide)
  have z1 := hz0.cell (i := 1) (by decide)
  have y0 := hz0.frozen 0
  have y1 := hz0.frozen 1
  have HY0 := Lib.hid hy0
  have HY1 := Lib.hid hy1
  clear hy0 hy1
  go_enter Try.func56, Try.ntmps56
  go_wp2
  go_quiet (fail)
  go_wp2
  go_loopw [25] (fun iv wr => ∃ (k : Nat) (h : Nat → Nat), k ≤ n ∧ iv = .int .i64 k ∧ AndInv w n f k h wr) (fun iv _ => n - (intOf iv).toNat)
  case atStart => exact ⟨0, fun _ => 0, Nat.zero_le _, rfl, AndInv.start w n f _⟩
  case round =>
    obtain ⟨k, h, hk, rfl, hI⟩ := hrel
    have HI := Lib.hid hI
    have hbw := hI.below
    by_cases hlk : k < n
    · have hcl := hI.row.cell (i := k) hlk
      have hfz := hI.row.frozen k
      clear hI
      obtain ⟨b, rfl⟩ := hd.addr (by omega)
      obtain ⟨b', rfl⟩ := hd'.addr (by omega)
      have x1 := (hbw.cell (p := ⟨gx, 1, none⟩) lx).trans c1
      have w1 := (hbw.cell (p := ⟨gy, 1, none⟩) ly).trans d1
      have hx := ((hd.below hbw).cell (j := k) (by omega)).1
      have hy := ((hd'.below hbw).cell (j := k) (by omega)).1
      rw [mask_dig HY0.out HY1.out (show k < 2 by omega)] at hy
      have hxs := hs k (by omega)
      have ea := and_u32 hxs
      have hk0 : (0 : Int) ≤ (k : Int) := by omega
      have hkn : (k : Int) < (n : Int) := by omega
      have hk2 : (k : Int) < 2 := by omega
      go_wp2
      go_region
      all_goals go_wp2
      all_goals go_roundw
      case rel => exact ⟨k + 1, _, by omega, by go_num, HI.out.put (by exact rfl)⟩
      case measure => simp [intOf]; omega
    · have hkn : k = n := by omega
      clear hI
      have w0 := (hbw.cell (p := ⟨gz, 0, none⟩) lz).trans z0
      have w2 := (hbw.cell (p := ⟨gz, 1, none⟩) lz).trans z1
      have v0 := (hbw.frozen (p := ⟨gz, 0, none⟩) lz).trans y0
      have v1 := (hbw.frozen (p := ⟨gz, 1, none⟩) lz).trans y1
      have hval : val n h = val n f := val_congr fun j hj => HI.out.same j (by omega)
      have HV := Lib.hid hval
      clear hval
      go_wp2_with fail
      refine (trim_laid w w wr gz w.heap.size n n false h (Below.refl _ _) hbw hz0 HI.out.row (Nat.le_refl _) (by omega) (fun j hj => by rw [HI.out.same j (by omega)]; exact hs j (by omega)) (by rw [HV.out]; exact hfit)).mono ?_
      rintro e w' ⟨rfl, hgr, hi⟩
      go_wp2
      go_ret
      rw [HV.out] at hi
      exact ⟨rfl, hgr, hi⟩

theorem and_mask (gz gx gy : Nat) (X : Nat) (w : World) (hz : Room w gz) (hx : IntAt w gx X) (hy : IntAt w gy (18446744073709551615 : Nat)) :
    Calls Try.prog 56 #[.pointer (some ⟨gz, 0, none⟩), .pointer (some ⟨gx, 0, none⟩), .pointer (some ⟨gy, 0, none⟩)] w fun e w' =>
      e = .returned (.pointer (some ⟨gz, 0, none⟩)) ∧ w.grownBy w' (some gz) ∧ IntAt w' gz (X % 18446744073709551616 : Nat) := by
  obtain ⟨A, n, c, f, hg, h1, h2, hn, hd, hs, ht, rfl⟩ := hx.nat
  obtain ⟨A', n', c', f', hg', h1', h2', hn', hd', hs', ht', ev⟩ := hy.nat
  have l1 : n' ≤ 2 := len_le (k := 2) ht' (by rw [← ev]; decide)
  have l2 : n' = 2 := by
    have h3 := val_lt hs'
    have h4 : n' = 0 ∨ n' = 1 ∨ n' = 2 := by omega
    rcases h4 with h4 | h4 | h4
    · subst h4; simp at h3; omega
    · subst h4; simp at h3; omega
    · exact h4
  subst l2
  have s0 := hs' 0 (by decide)
  have s1 := hs' 1 (by decide)
  simp [val] at ev
  rw [val_mod2 hs]
  by_cases h : 2 < n
  · rw [show min n 2 = 2 by omega]
    exact and_gt gz gx gy A A' n c c' f f' w hz hg hg' hd hd' hs hn (by omega) (by omega) h
  · rw [show min n 2 = n by omega]
    exact and_le gz gx gy A A' n c c' f f' w hz hg hg' hd hd' hs hn (by omega) (by omega) (by omega)
end Go.Proofs.Ytfopcipapphogaa
