/- The reference's differences of digits: a contract. -/
import Derived.Test.YtemoleopabddnaaBig2
namespace Go.Proofs.Ytemoleopabddnaa
open Go.RowKit

theorem wrap64_mod' (a : Int) : IntKind.u64.wrap a = a % 18446744073709551616 := IntKind.wrap_u64 a
/-- A round of lessOf: what stands so far. -/
structure LessInv (w : World) (n n' : Nat) (f f' : Nat → Nat) (k cy : Nat) (h : Nat → Nat) (wr : World) : Prop where
  carry : cy ≤ 1
  row : wr.rowIs w.heap.size 62 n (fun j => .int .u32 (h j))
  small : Small k h
  sum : val k h + val (min k n') f' = val k f + cy * 4294967296 ^ k
  below : Below w.heap.size w wr
theorem LessInv.start (w : World) (n n' : Nat) (f f' : Nat → Nat) : LessInv w n n' f f' 0 0 (fun _ => 0) (w.alloc (.cells (madeCells #[.int .u32 0] n) 62)) :=
  ⟨by decide, World.rowIs_made w _ _ _, fun j hj => by omega, by simp [val], (Below.refl _ _).alloc (Nat.le_refl _) _⟩
theorem LessInv.put {w : World} {n n' : Nat} {f f' : Nat → Nat} {k cy : Nat} {h : Nat → Nat} {wr : World} (I : LessInv w n n' f f' k cy h wr) {V : Int} {D c y : Nat} (hV : V = D) (hD : D < 4294967296) (hc : c ≤ 1)
    (e : f k + c * 4294967296 = D + cy + y) (hy : val (min (k + 1) n') f' = val (min k n') f' + y * 4294967296 ^ k) :
    LessInv w n n' f f' (k + 1) c (fun j => if j = k then D else h j) (wr.setCell ⟨w.heap.size, k, none⟩ (.int .u32 V)) := by
  refine ⟨hc, row_put I.row k _ hV, ?_, ?_, I.below.setCell (Nat.le_refl _) _⟩
  · intro j hj
    dsimp only
    split
    · omega
    · exact I.small j (by omega)
  · have s := I.sum
    have e' := congrArg (· * 4294967296 ^ k) e
    simp only [Nat.add_mul] at e'
    rw [hy]
    simp only [val, if_true]
    rw [val_put, Nat.pow_succ, Nat.mul_comm (4294967296 ^ k), ← Nat.mul_assoc]
    omega
theorem LessInv.last {w : World} {n n' : Nat} {f f' : Nat → Nat} {cy : Nat} {h : Nat → Nat} {wr : World} (I : LessInv w n n' f f' n cy h wr) (hn : n' ≤ n) (hb : n ≤ 100000) (hle : val n' f' ≤ val n f) :
    NewRow w n (val n f - val n' f') (.returned (.slice (some ⟨w.heap.size, 0, none⟩) n n)) wr := by
  have e := I.sum
  rw [show min n n' = n' by omega] at e
  have hc := I.carry
  have hl := val_lt I.small
  refine ⟨w.heap.size, n, h, rfl, Nat.le_refl _, by omega, Nat.le_refl _, I.row, I.small, ?_, I.below⟩
  have : cy = 0 ∨ cy = 1 := by omega
  rcases this with rfl | rfl <;> omega
theorem min_in {k n' : Nat} {f' : Nat → Nat} (h : k < n') : val (min (k + 1) n') f' = val (min k n') f' + f' k * 4294967296 ^ k := by
  rw [show min (k + 1) n' = k + 1 by omega, show min k n' = k by omega]
  rfl
theorem min_out {k n' : Nat} {f' : Nat → Nat} (h : n' ≤ k) : val (min (k + 1) n') f' = val (min k n') f' + 0 * 4294967296 ^ k := by
  rw [show min (k + 1) n' = n' by omega, show min k n' = n' by omega, Nat.zero_mul, Nat.add_zero]

set_option maxHeartbeats 2000000 in
theorem less_any (A A' : Option Addr) (n n' c c' : Nat) (f f' : Nat → Nat) (w : World) (hd : Dig w A n f) (hd' : Dig w A' n' f') (hs : Small n f) (hs' : Small n' f') (hn : n ≤ 100000) (hlt : n' ≤ n) (hle : val n' f' ≤ val n f) :
    Calls Try.prog 55 #[.slice A n c, .slice A' n' c'] w (NewRow w n (val n f - val n' f')) := by
  have hmk := run_make_row' (P := Try.prog) 43 62 (.int .u32 0) 4 Try.underlying43 (by kernel_rfl) rfl .i64 .i64 n (by omega) (by omega)
  go_enter Try.func55, Try.ntmps55
  go_wp2
  go_loopw [6, 15] (fun cv iv wr => ∃ (k cy : Nat) (h : Nat → Nat), k ≤ n ∧ iv = .int .i64 k ∧ cv = .int .u64 cy ∧ LessInv w n n' f f' k cy h wr) (fun _ iv _ => n - (intOf iv).toNat)
  case atStart => exact ⟨0, 0, fun _ => 0, Nat.zero_le _, rfl, rfl, LessInv.start w n n' f f'⟩
  case round =>
    obtain ⟨k, cy, h, hk, rfl, rfl, hI⟩ := hrel
    have HI := Lib.hid hI
    have hc1 := hI.carry
    have hbw := hI.below
    by_cases hlk : k < n
    · have hfz := hI.row.frozen k
      have hcl := hI.row.cell (i := k) hlk
      clear hI
      obtain ⟨b, rfl⟩ := hd.addr (by omega)
      have hx := ((hd.below hbw).cell hlk).1
      have hxs := hs k hlk
      by_cases hyk : k < n'
      · obtain ⟨b', rfl⟩ := hd'.addr (by omega)
        have hy := ((hd'.below hbw).cell hyk).1
        have hys := hs' k hyk
        go_wp2
        go_roundw
        case rel =>
          simp only [wrap64_mod']
          exact ⟨k + 1, (cy + f' k + 4294967295 - f k) / 4294967296, _, by omega, by go_num, congrArg (Value.int IntKind.u64) (by omega), HI.out.put (D := (f k + 8589934592 - cy - f' k) % 4294967296) (c := (cy + f' k + 4294967295 - f k) / 4294967296) (y := f' k) (by omega) (by omega) (by omega) (by omega) (min_in hyk)⟩
        case measure => simp [intOf]; omega
      · go_wp2
        go_roundw
        case rel =>
          simp only [wrap64_mod']
          exact ⟨k + 1, (cy + 4294967295 - f k) / 4294967296, _, by omega, by go_num, congrArg (Value.int IntKind.u64) (by omega), HI.out.put (D := (f k + 4294967296 - cy) % 4294967296) (c := (cy + 4294967295 - f k) / 4294967296) (y := 0) (by omega) (by omega) (by omega) (by omega) (min_out (by omega))⟩
        case measure => simp [intOf]; omega
    · have hkn : k = n := by omega
      subst hkn
      clear hI
      have HN := HI.out.last hlt hn hle
      go_wp2
      go_ret
      exact HN
end Go.Proofs.Ytemoleopabddnaa
