/- The reference's shift to the left of digits: a contract. -/
import Derived.Test.YtfopcipapphogaaBig8
namespace Go.Proofs.Ytfopcipapphogaa
open Go.RowKit

theorem pow_32 (q : Nat) : 2 ^ (32 * q) = 4294967296 ^ q := by rw [Nat.pow_mul]
/-- A round of shiftLeft: what stands so far. -/
structure ShlInv (w : World) (n q r : Nat) (f : Nat → Nat) (k : Nat) (h : Nat → Nat) (wr : World) : Prop where
  row : wr.rowIs w.heap.size 81 (n + q + 1) (fun j => .int .u32 (h j))
  small : Small (k + q + 1) h
  top : h (k + q) < 2 ^ r
  sum : val (k + q + 1) h = val k f * 2 ^ r * 4294967296 ^ q
  below : Below w.heap.size w wr
theorem val_const0 (n : Nat) : val n (fun _ => 0) = 0 := by
  induction n with
  | zero => rfl
  | succ n ih => simp [val, ih]
theorem ShlInv.start (w : World) (n q r : Nat) (f : Nat → Nat) : ShlInv w n q r f 0 (fun _ => 0) (w.alloc (.cells (madeCells #[.int .u32 0] (n + q + 1)) 81)) :=
  ⟨World.rowIs_made w _ _ _, fun j hj => by decide, Nat.two_pow_pos r, by simp [val, val_const0], (Below.refl _ _).alloc (Nat.le_refl _) _⟩
theorem or_low {a v r : Nat} (ha : a < 2 ^ r) (hr : r < 32) (d : Nat) (hv : v = d * 2 ^ r) : a ||| (v % 4294967296) = a + v % 4294967296 ∧ a + v % 4294967296 < 4294967296 := by
  have e : 4294967296 = 2 ^ (32 - r) * 2 ^ r := by rw [← Nat.pow_add, show 32 - r + r = 32 by omega]
  have e2 : v % 4294967296 = (d % 2 ^ (32 - r)) * 2 ^ r := by rw [hv, e, Nat.mul_mod_mul_right]
  have l : d % 2 ^ (32 - r) < 2 ^ (32 - r) := Nat.mod_lt _ (Nat.two_pow_pos _)
  have l2 := Nat.mul_le_mul_right (2 ^ r) (show d % 2 ^ (32 - r) + 1 ≤ 2 ^ (32 - r) from l)
  rw [Nat.add_mul, Nat.one_mul, ← e, ← e2] at l2
  refine ⟨?_, by omega⟩
  rw [e2, Nat.or_comm, Nat.mul_comm, ← Nat.two_pow_add_eq_or_of_lt ha, Nat.add_comm]
theorem or_u32 {a b : Nat} (ha : a < 4294967296) (hb : b < 4294967296) : bits .or .u32 (a : Int) (b : Int) = ((a ||| b : Nat) : Int) := by
  have hx : a ||| b < 2 ^ 32 := Nat.or_lt_two_pow (by omega) (by omega)
  have e : ∀ c : Nat, c < 4294967296 → (BitVec.ofInt 32 (c : Int)).toNat = c := fun c hc => by
    rw [BitVec.ofInt_natCast, BitVec.toNat_ofNat]
    exact Nat.mod_eq_of_lt (by omega)
  show IntKind.u32.wrap ((BitVec.ofInt 32 (a : Int) ||| BitVec.ofInt 32 (b : Int)).toNat : Int) = _
  rw [BitVec.toNat_or, e a ha, e b hb, IntKind.wrap_u32]
  omega
theorem shl_word {a r : Nat} (ha : a < 4294967296) (hr : r < 32) : IntKind.u64.wrap (IntKind.u64.wrap (a : Int) * 2 ^ r) = ((a * 2 ^ r : Nat) : Int) := by
  have h1 : a * 2 ^ r ≤ a * 4294967296 := Nat.mul_le_mul_left a (by have := Nat.pow_le_pow_right (show 0 < 2 by decide) (show r ≤ 32 by omega); simpa using this)
  rw [wrapSmall a (by omega), show (a : Int) * 2 ^ r = ((a * 2 ^ r : Nat) : Int) by push_cast; rfl, wrapSmall _ (by omega)]
theorem ShlInv.put {w : World} {n q r : Nat} {f : Nat → Nat} {k : Nat} {h : Nat → Nat} {wr : World} (I : ShlInv w n q r f k h wr) (hr : r < 32) (hf : f k < 4294967296) {V W : Int} (hV : V = ((h (k + q) + f k * 2 ^ r % 4294967296 : Nat) : Int)) (hW : W = ((f k * 2 ^ r / 4294967296 : Nat) : Int)) :
    ShlInv w n q r f (k + 1) (fun j => if j = k + q + 1 then f k * 2 ^ r / 4294967296 else if j = k + q then h (k + q) + f k * 2 ^ r % 4294967296 else h j)
      ((wr.setCell ⟨w.heap.size, k + q, none⟩ (.int .u32 V)).setCell ⟨w.heap.size, k + q + 1, none⟩ (.int .u32 W)) := by
  have hl := (or_low I.top hr (f k) rfl).2
  have ht : f k * 2 ^ r / 4294967296 < 2 ^ r := by
    rw [Nat.div_lt_iff_lt_mul (by decide), Nat.mul_comm (2 ^ r)]
    exact (Nat.mul_lt_mul_right (Nat.two_pow_pos r)).2 hf
  have hp : 2 ^ r ≤ 4294967296 := by
    have := Nat.pow_le_pow_right (show 0 < 2 by decide) (show r ≤ 32 by omega)
    simpa using this
  refine ⟨row_put (row_put I.row (k + q) _ hV) (k + q + 1) _ hW, ?_, ?_, ?_, (I.below.setCell (Nat.le_refl _) _).setCell (Nat.le_refl _) _⟩
  · intro j hj
    dsimp only
    split
    · omega
    · split
      · exact hl
      · exact I.small j (by omega)
  · rw [show k + 1 + q = k + q + 1 by omega]
    simpa using ht
  · have e1 : val (k + q) (fun j => if j = k + q + 1 then f k * 2 ^ r / 4294967296 else if j = k + q then h (k + q) + f k * 2 ^ r % 4294967296 else h j) = val (k + q) h :=
      val_congr fun j hj => by rw [if_neg (by omega), if_neg (by omega)]
    have s := I.sum
    simp only [val] at s
    rw [show k + 1 + q + 1 = k + q + 1 + 1 by omega]
    simp only [val]
    rw [e1, if_neg (by omega)]
    simp only [if_true]
    rw [Nat.add_mul, ← Nat.add_assoc, s, Nat.add_assoc]
    have d := digit_step (k + q) (f k * 2 ^ r) 0
    simp only [Nat.zero_add] at d
    rw [d, Nat.pow_add, Nat.add_mul, Nat.add_mul]
    congr 1
    rw [← Nat.mul_assoc, Nat.mul_right_comm (f k)]

set_option maxHeartbeats 2000000 in
theorem shl_any (A : Option Addr) (n c N q r : Nat) (f : Nat → Nat) (w : World) (hd : Dig w A n f) (hs : Small n f) (hn : n ≤ 100000) (hN : N = 32 * q + r) (hr : r < 32) (hq : q ≤ 100000) :
    Calls Try.prog 80 #[.slice A n c, .int .i64 N] w (NewRow w (n + q + 1) (val n f * 2 ^ N)) := by
  have hmk := run_make_row' (P := Try.prog) 30 81 (.int .u32 0) 4 Try.underlying30 (by kernel_rfl) rfl .i64 .i64 (n + q + 1) (by omega) (by omega)
  have ec : ((n + q + 1 : Nat) : Int) = (n : Int) + (q : Int) + 1 := by omega
  rw [ec] at hmk
  clear ec
  have e1 : (N : Int) / 32 = (q : Int) := by omega
  have e2 : (N : Int) % 32 = (r : Int) := by omega
  have hN2 : N ≤ 3200031 := by omega
  have HN := Lib.hid hN
  clear hN
  go_enter Try.func80, Try.ntmps80
  go_wp2
  go_loopw [18] (fun iv wr => ∃ (k : Nat) (h : Nat → Nat), k ≤ n ∧ iv = .int .i64 k ∧ ShlInv w n q r f k h wr) (fun iv _ => n - (intOf iv).toNat)
  case atStart => exact ⟨0, fun _ => 0, Nat.zero_le _, rfl, ShlInv.start w n q r f⟩
  case round =>
    obtain ⟨k, h, hk, rfl, hI⟩ := hrel
    have HI := Lib.hid hI
    by_cases hlk : k < n
    · have hcl := hI.row.cell (i := k + q) (by omega)
      have hcl2 := hI.row.cell (i := k + q + 1) (by omega)
      have hfz := hI.row.frozen (k + q)
      have hfz2 := hI.row.frozen (k + q + 1)
      obtain ⟨b, rfl⟩ := hd.addr (by omega)
      have hx := ((hd.below hI.below).cell hlk).1
      clear hI
      go_wp2
      go_roundw
      case rel =>
        have hxs := hs k hlk
        have hol := or_low HI.out.top hr (f k) rfl
        have hsm := HI.out.small (k + q) (by omega)
        refine ⟨k + 1, _, by omega, by go_num, HI.out.put hr hxs ?_ ?_⟩
        · rw [shl_word hxs hr, ← hol.1, show ((f k * 2 ^ r : Nat) : Int) % 4294967296 = ((f k * 2 ^ r % 4294967296 : Nat) : Int) by omega, or_u32 hsm (by omega)]
        · have : f k * 2 ^ r ≤ f k * 4294967296 := Nat.mul_le_mul_left _ (by have := Nat.pow_le_pow_right (show 0 < 2 by decide) (show r ≤ 32 by omega); simpa using this)
          rw [shl_word hxs hr]
          omega
      case measure => simp [intOf]; omega
    · have hkn : k = n := by omega
      subst hkn
      clear hI
      go_wp2
      go_ret
      refine ⟨w.heap.size, k + q + 1, h, rfl, Nat.le_refl _, by omega, Nat.le_refl _, HI.out.row, HI.out.small, ?_, HI.out.below⟩
      rw [HI.out.sum, HN.out, Nat.pow_add, pow_32, Nat.mul_right_comm, Nat.mul_assoc]
end Go.Proofs.Ytfopcipapphogaa
