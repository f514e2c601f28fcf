/- The reference's shift to the right of digits: a contract. -/
import Derived.Test.YtfopcipapphogaaBig9
import Derived.RegionTactic
namespace Go.Proofs.Ytfopcipapphogaa
open Go.RowKit

/-- What is left of a digit's low bits, beyond the end nothing. -/
def lowOf (m r : Nat) (g : Nat → Nat) (k : Nat) : Nat := if k < m then g k % 2 ^ r else 0
/-- A round of shiftRight: what stands so far. -/
structure ShrInv (w : World) (m r : Nat) (g : Nat → Nat) (k : Nat) (h : Nat → Nat) (wr : World) : Prop where
  row : wr.rowIs w.heap.size 81 m (fun j => .int .u32 (h j))
  small : Small k h
  sum : val k h * 2 ^ r + lowOf m r g 0 = val k g + lowOf m r g k * 4294967296 ^ k
  below : Below w.heap.size w wr
theorem ShrInv.start (w : World) (m r : Nat) (g : Nat → Nat) : ShrInv w m r g 0 (fun _ => 0) (w.alloc (.cells (madeCells #[.int .u32 0] m) 81)) :=
  ⟨World.rowIs_made w _ _ _, fun j hj => by omega, by simp [val], (Below.refl _ _).alloc (Nat.le_refl _) _⟩
theorem low_r0 {m : Nat} {g : Nat → Nat} {k : Nat} : lowOf m 0 g k = 0 := by unfold lowOf; split <;> simp [Nat.mod_one]
theorem low_end {m r : Nat} {g : Nat → Nat} {k : Nat} (h : m ≤ k) : lowOf m r g k = 0 := by unfold lowOf; rw [if_neg (by omega)]
theorem half_pow (r : Nat) (hr : r ≤ 32) : 2 ^ (32 - r) * 2 ^ r = 4294967296 := by rw [← Nat.pow_add, show 32 - r + r = 32 by omega]
theorem shr_digit {a b r : Nat} (ha : a < 4294967296) (hr : r ≤ 32) : a / 2 ^ r + b % 2 ^ r * 2 ^ (32 - r) < 4294967296 ∧ (a / 2 ^ r + b % 2 ^ r * 2 ^ (32 - r)) * 2 ^ r + a % 2 ^ r = a + b % 2 ^ r * 4294967296 := by
  have e := half_pow r hr
  have p := Nat.two_pow_pos r
  have d := Nat.div_add_mod a (2 ^ r)
  have l : b % 2 ^ r < 2 ^ r := Nat.mod_lt _ p
  have la : a / 2 ^ r < 2 ^ (32 - r) := by rw [Nat.div_lt_iff_lt_mul p, e]; exact ha
  have l2 := Nat.mul_le_mul_right (2 ^ (32 - r)) (show b % 2 ^ r + 1 ≤ 2 ^ r from l)
  rw [Nat.add_mul, Nat.one_mul, Nat.mul_comm (2 ^ r), e] at l2
  refine ⟨by omega, ?_⟩
  rw [Nat.add_mul, Nat.mul_assoc, e, Nat.mul_comm (a / 2 ^ r)]
  omega
theorem or_shr {a b r : Nat} (ha : a < 4294967296) (hr : r ≤ 32) : bits .or .u32 ((a : Int) / 2 ^ r) ((b : Int) * 2 ^ (32 - r) % 4294967296) = ((a / 2 ^ r + b % 2 ^ r * 2 ^ (32 - r) : Nat) : Int) := by
  have e := half_pow r hr
  have p := Nat.two_pow_pos r
  have la : a / 2 ^ r < 2 ^ (32 - r) := by rw [Nat.div_lt_iff_lt_mul p, e]; exact ha
  have e2 : b * 2 ^ (32 - r) % 4294967296 = b % 2 ^ r * 2 ^ (32 - r) := by rw [← e, Nat.mul_comm (2 ^ (32 - r)) (2 ^ r), Nat.mul_mod_mul_right]
  have i1 : (a : Int) / 2 ^ r = ((a / 2 ^ r : Nat) : Int) := by push_cast; rfl
  have i2 : (b : Int) * 2 ^ (32 - r) % 4294967296 = ((b * 2 ^ (32 - r) % 4294967296 : Nat) : Int) := by
    have : (b : Int) * 2 ^ (32 - r) = ((b * 2 ^ (32 - r) : Nat) : Int) := by push_cast; rfl
    rw [this]
    omega
  have l3 : a / 2 ^ r < 4294967296 := Nat.lt_of_le_of_lt (Nat.div_le_self _ _) ha
  rw [i1, i2, or_u32 l3 (by omega), e2, Nat.or_comm, Nat.mul_comm, ← Nat.two_pow_add_eq_or_of_lt la, Nat.add_comm, Nat.mul_comm (2 ^ (32 - r))]
theorem ShrInv.put {w : World} {m r : Nat} {g : Nat → Nat} {k : Nat} {h : Nat → Nat} {wr wr' : World} (I : ShrInv w m r g k h wr) (hr : r < 32) (hk : k < m) (hg : g k < 4294967296)
    (hb : Below w.heap.size w wr') (hrow : wr'.rowIs w.heap.size 81 m (fun j => .int .u32 ((if j = k then g k / 2 ^ r + lowOf m r g (k + 1) * 2 ^ (32 - r) else h j : Nat) : Int))) :
    ShrInv w m r g (k + 1) (fun j => if j = k then g k / 2 ^ r + lowOf m r g (k + 1) * 2 ^ (32 - r) else h j) wr' := by
  have hl : lowOf m r g (k + 1) % 2 ^ r = lowOf m r g (k + 1) := by unfold lowOf; split <;> simp
  obtain ⟨d1, d2⟩ := shr_digit (b := lowOf m r g (k + 1)) hg (show r ≤ 32 by omega)
  rw [hl] at d1 d2
  refine ⟨hrow, ?_, ?_, hb⟩
  · intro j hj
    dsimp only
    split
    · exact d1
    · exact I.small j (by omega)
  · have s := I.sum
    have e0 : lowOf m r g k = g k % 2 ^ r := by unfold lowOf; rw [if_pos hk]
    rw [e0] at s
    simp only [val, if_true]
    rw [val_put, Nat.add_mul, Nat.mul_right_comm, Nat.pow_succ]
    have d3 := congrArg (· * 4294967296 ^ k) d2
    simp only [Nat.add_mul] at d3 ⊢
    rw [Nat.mul_comm (4294967296 ^ k), ← Nat.mul_assoc (lowOf m r g (k + 1))]
    omega
theorem ShrInv.last {w : World} {m r : Nat} {g : Nat → Nat} {h : Nat → Nat} {wr : World} (I : ShrInv w m r g m h wr) : val m h = val m g / 2 ^ r := by
  have s := I.sum
  rw [show lowOf m r g m = 0 by unfold lowOf; rw [if_neg (by omega)], Nat.zero_mul, Nat.add_zero] at s
  have l : lowOf m r g 0 < 2 ^ r := by
    unfold lowOf
    split
    · exact Nat.mod_lt _ (Nat.two_pow_pos r)
    · exact Nat.two_pow_pos r
  rw [← s, Nat.add_comm, Nat.add_mul_div_right _ _ (Nat.two_pow_pos r), Nat.div_eq_of_lt l, Nat.zero_add]
theorem val_shift (n q : Nat) (f : Nat → Nat) : val (q + n) f = val q f + val n (fun j => f (q + j)) * 4294967296 ^ q := by
  induction n with
  | zero => simp [val]
  | succ n ih =>
    rw [← Nat.add_assoc]
    simp only [val]
    rw [ih, Nat.add_mul, Nat.pow_add, Nat.mul_assoc (f (q + n)), Nat.mul_comm (4294967296 ^ n), Nat.add_assoc]
theorem val_div {n q : Nat} {f : Nat → Nat} (hs : Small n f) (hq : q ≤ n) : val n f / 4294967296 ^ q = val (n - q) (fun j => f (q + j)) := by
  have e := val_shift (n - q) q f
  rw [show q + (n - q) = n by omega] at e
  rw [e, Nat.add_mul_div_right _ _ (Nat.pow_pos (by decide)), Nat.div_eq_of_lt (val_lt (hs.le hq)), Nat.zero_add]

set_option maxHeartbeats 2000000 in
theorem shr_any (b n c N q r : Nat) (f : Nat → Nat) (w : World) (hd : Dig w (some ⟨b, 0, none⟩) n f) (hs : Small n f) (hn : n ≤ 100000) (hc : n ≤ c) (hN : N = 32 * q + r) (hr : r < 32) (hq : q < n) :
    Calls Try.prog 82 #[.slice (some ⟨b, 0, none⟩) n c, .int .i64 N] w (NewRow w (n - q) (val n f / 2 ^ N)) := by
  have hmk := run_make_row' (P := Try.prog) 30 81 (.int .u32 0) 4 Try.underlying30 (by kernel_rfl) rfl .i64 .i64 (n - q) (by omega) (by omega)
  have e1 : (N : Int) / 32 = (q : Int) := by omega
  have e2 : (N : Int) % 32 = (r : Int) := by omega
  have hcq : ¬ c = q := by omega
  have hdq : decide (n ≤ q) = false := by simp; omega
  have HN := Lib.hid hN
  clear hN
  go_enter Try.func82, Try.ntmps82
  go_wp2
  go_loopw [22] (fun iv wr => ∃ (k : Nat) (h : Nat → Nat), k ≤ n - q ∧ iv = .int .i64 k ∧ ShrInv w (n - q) r (fun j => f (q + j)) k h wr) (fun iv _ => n - q - (intOf iv).toNat)
  case atStart => exact ⟨0, fun _ => 0, Nat.zero_le _, rfl, ShrInv.start w (n - q) r _⟩
  case round =>
    obtain ⟨k, h, hk, rfl, hI⟩ := hrel
    have HI := Lib.hid hI
    by_cases hlk : k < n - q
    · have hcl := hI.row.cell (i := k) hlk
      have hfz := hI.row.frozen k
      have hx := ((hd.below hI.below).cell (j := q + k) (by omega)).1
      have hxs := hs (q + k) (by omega)
      have hb := ((hd.below hI.below).cell (j := q + k) (by omega)).2
      have hbn : ¬ b = w.heap.size := by have := (hd.cell (j := q + k) (by omega)).2; omega
      by_cases h1 : k + 1 < n - q
      · have hx2 := ((hd.below hI.below).cell (j := q + (k + 1)) (by omega)).1
        have hxs2 := hs (q + (k + 1)) (by omega)
        have d1 : decide ((k : Int) + 1 < ((n - q : Nat) : Int)) = true := by simp; omega
        clear hI
        by_cases h0 : r = 0
        · have HR := Lib.hid h0
          subst h0
          go_wp2
          go_roundw
          case rel => exact ⟨k + 1, _, by omega, by go_num, HI.out.put (by decide) hlk hxs (HI.out.below.setCell (Nat.le_refl _) _) (row_put HI.out.row k _ (by rw [low_r0]; simp))⟩
          case measure => simp [intOf]; omega
        · have d2 : decide ((0 : Int) < (r : Int)) = true := by simp; omega
          go_wp2
          go_region
          all_goals go_wp2
          all_goals go_roundw
          case rel =>
            refine ⟨k + 1, _, by omega, by go_num, HI.out.put hr hlk hxs (((HI.out.below.setCell (Nat.le_refl _) _).setCell (Nat.le_refl _) _).drew) ?_⟩
            have r2 := row_put (row_put HI.out.row k (f (q + k) / 2 ^ r) (V := (f (q + k) : Int) / 2 ^ r) (by push_cast; rfl)) k (f (q + k) / 2 ^ r + f (q + (k + 1)) % 2 ^ r * 2 ^ (32 - r)) (or_shr hxs (by omega))
            refine (r2.drew).congr fun j hj => ?_
            have el : lowOf (n - q) r (fun j => f (q + j)) (k + 1) = f (q + (k + 1)) % 2 ^ r := by unfold lowOf; rw [if_pos h1]
            rw [el]
            by_cases hjk : j = k
            · simp [hjk]
            · simp [hjk]
          case measure => simp [intOf]; omega
      · have d1 : decide ((k : Int) + 1 < ((n - q : Nat) : Int)) = false := by simp; omega
        clear hI
        go_wp2
        go_roundw
        case rel => exact ⟨k + 1, _, by omega, by go_num, HI.out.put hr hlk hxs (HI.out.below.setCell (Nat.le_refl _) _) (row_put HI.out.row k _ (by rw [low_end (by omega)]; simp))⟩
        case measure => simp [intOf]; omega
    · have hkn : k = n - q := by omega
      clear hI
      go_wp2
      go_ret
      have hL := hkn ▸ HI.out
      refine ⟨w.heap.size, n - q, h, rfl, Nat.le_refl _, by omega, Nat.le_refl _, HI.out.row, hL.small, ?_, HI.out.below⟩
      rw [hL.last, HN.out, Nat.pow_add, pow_32, ← Nat.div_div_eq_div_mul, val_div hs (by omega)]
end Go.Proofs.Ytfopcipapphogaa
