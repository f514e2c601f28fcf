/- The reference for package trie: FBits. -/
import Derived.Test.YtandfbepenjbhaaTr2
namespace Go.Proofs.Ytandfbepenjbhaa
open Go.RowKit Go.Maps

theorem wraps_i64 (n : Int) (h₀ : 0 ≤ n) (h₁ : n < 2 ^ 63) : IntKind.i64.wrap n = n := by
  simp [IntKind.wrap, IntKind.bits, IntKind.signed]
  omega
/-- The first n bits, as a number. -/
def fb (x n : Nat) : Int := ((top x n * 2 ^ (32 - n) : Nat) : Int)
theorem fb_eq {x y n : Nat} : fb x n = fb y n ↔ top x n = top y n := by
  unfold fb
  have hp : 0 < 2 ^ (32 - n) := Nat.two_pow_pos _
  constructor
  · intro h
    have h2 : top x n * 2 ^ (32 - n) = top y n * 2 ^ (32 - n) := by omega
    exact Nat.eq_of_mul_eq_mul_right hp h2
  · intro h; rw [h]
theorem fb_all (x : Nat) : fb x 32 = (x : Int) := by
  unfold fb top
  simp
theorem fb_low {p : Pf} : fb p.n p.b = fb p.n 32 ↔ low p := by
  rw [fb_all]
  unfold fb top low
  have := Nat.div_add_mod p.n (2 ^ (32 - p.b))
  rw [Nat.mul_comm] at this
  constructor
  · intro h; omega
  · intro h; omega
theorem fb_lt {x n : Nat} (hx : x < 4294967296) : (x : Int) / 2 ^ (32 - n) * 2 ^ (32 - n) = fb x n ∧ 0 ≤ fb x n ∧ fb x n < 2 ^ 63 := by
  unfold fb top
  have h1 : x / 2 ^ (32 - n) * 2 ^ (32 - n) ≤ x := Nat.div_mul_le_self _ _
  refine ⟨?_, by omega, by omega⟩
  simp only [Int.natCast_mul, Int.natCast_ediv, Int.natCast_pow, Int.cast_ofNat_Int]

set_option maxHeartbeats 2000000 in
theorem fBits_any (a : Ad) (ha : a.Ok) (n : Nat) (hn : n ≤ 32) (w : World) :
    Calls Try.prog 31 #[.agg #[.int .u8 a.a0, .int .u8 a.a1, .int .u8 a.a2, .int .u8 a.a3], .int .i64 (n : Int)] w fun e w' => e = .returned (.int .i64 (fb a.num n)) ∧ Below w.heap.size w w' := by
  have hx := ha.lt
  obtain ⟨e1, e2, e3⟩ := fb_lt (n := n) hx
  have HE : Hid (wrap64 ((a.num : Int) / 2 ^ (32 - n) * 2 ^ (32 - n)) = fb a.num n) := Lib.hid (by rw [e1]; unfold wrap64; omega)
  have HB : Hid (Below w.heap.size w (w.alloc (.cells #[.int .u8 a.a0, .int .u8 a.a1, .int .u8 a.a2, .int .u8 a.a3] 23))) := Lib.hid ((Below.refl _ _).alloc (Nat.le_refl _) _)
  obtain ⟨⟨p0, q0⟩, ⟨p1, q1⟩, ⟨p2, q2⟩, p3, q3⟩ := ha
  have HX : Hid ((a.num : Int) = ((a.a0 * 256 + a.a1) * 256 + a.a2) * 256 + a.a3) := Lib.hid (by simp only [Ad.num]; omega)
  generalize fb a.num n = R at *
  generalize a.num = x at *
  clear e1 e2 e3
  have k1 : IntKind.i64.wrap (32 - (n : Int)) = 32 - (n : Int) := wraps_i64 _ (by omega) (by omega)
  have j0 : ∀ w : World, (Instr.index 23 (.agg #[.int .u8 a.a0, .int .u8 a.a1, .int .u8 a.a2, .int .u8 a.a3]) (.int .i64 0)).run Try.prog w = .ok (.int .u8 a.a0) w := fun _ => by kernel_rfl
  have j1 : ∀ w : World, (Instr.index 23 (.agg #[.int .u8 a.a0, .int .u8 a.a1, .int .u8 a.a2, .int .u8 a.a3]) (.int .i64 1)).run Try.prog w = .ok (.int .u8 a.a1) w := fun _ => by kernel_rfl
  have j2 : ∀ w : World, (Instr.index 23 (.agg #[.int .u8 a.a0, .int .u8 a.a1, .int .u8 a.a2, .int .u8 a.a3]) (.int .i64 2)).run Try.prog w = .ok (.int .u8 a.a2) w := fun _ => by kernel_rfl
  have j3 : ∀ w : World, (Instr.index 23 (.agg #[.int .u8 a.a0, .int .u8 a.a1, .int .u8 a.a2, .int .u8 a.a3]) (.int .i64 3)).run Try.prog w = .ok (.int .u8 a.a3) w := fun _ => by kernel_rfl
  go_enter Try.func31, Try.ntmps31
  go_wp2_with fail
  generalize w.alloc (.cells #[.int .u8 a.a0, .int .u8 a.a1, .int .u8 a.a2, .int .u8 a.a3] 23) = m at *
  go_loopg [5, 9] 4 (fun k v5 v9 wr => wr = m ∧ Hid ((k = 4 ∧ v9 = .int .i64 0 ∧ v5 = .int .i64 0) ∨ (k = 3 ∧ v9 = .int .i64 1 ∧ v5 = .int .i64 a.a0) ∨ (k = 2 ∧ v9 = .int .i64 2 ∧ v5 = .int .i64 (a.a0 * 256 + a.a1)) ∨ (k = 1 ∧ v9 = .int .i64 3 ∧ v5 = .int .i64 ((a.a0 * 256 + a.a1) * 256 + a.a2)) ∨ (k = 0 ∧ v9 = .int .i64 4 ∧ v5 = .int .i64 (x : Int))))
  case atStart => exact ⟨rfl, Lib.hid (.inl ⟨rfl, rfl, rfl⟩)⟩
  case round =>
    obtain ⟨rfl, HC⟩ := hrel
    rcases HC.out with ⟨rfl, rfl, rfl⟩ | ⟨rfl, rfl, rfl⟩ | ⟨rfl, rfl, rfl⟩ | ⟨rfl, rfl, rfl⟩ | ⟨rfl, rfl, rfl⟩
    · clear HC
      go_wp2_with fail
      go_roundg 3
      case measure => omega
      case rel => exact ⟨rfl, Lib.hid (.inr (.inl ⟨rfl, rfl, by go_num⟩))⟩
    · clear HC
      go_wp2_with fail
      go_roundg 2
      case measure => omega
      case rel => exact ⟨rfl, Lib.hid (.inr (.inr (.inl ⟨rfl, rfl, by go_num⟩)))⟩
    · clear HC
      go_wp2_with fail
      go_roundg 1
      case measure => omega
      case rel => exact ⟨rfl, Lib.hid (.inr (.inr (.inr (.inl ⟨rfl, rfl, by go_num⟩))))⟩
    · clear HC
      go_wp2_with fail
      go_roundg 0
      case measure => omega
      case rel => exact ⟨rfl, Lib.hid (.inr (.inr (.inr (.inr ⟨rfl, rfl, by rw [HX.out]⟩))))⟩
    · clear HC
      go_wp2_with fail
      go_ret
      exact ⟨ret_int HE.out, HB.out⟩

end Go.Proofs.Ytandfbepenjbhaa
