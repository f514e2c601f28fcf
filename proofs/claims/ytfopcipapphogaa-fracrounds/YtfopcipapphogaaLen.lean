/- A contract of math/bits.Len64, proved by walking its text: it returns how many bits a number has, for every argument. -/
import Derived.Test.YtfopcipapphogaaRows
import Derived.Lib.Walk
import Derived.Lib.BitFns
namespace Go.Proofs.Ytfopcipapphogaa

/-! ### Len64, LeadingZeros64: what they tell of a number's size -/
def LenIs (x L : Nat) : Prop := (x = 0 ∧ L = 0) ∨ (0 < L ∧ 2 ^ (L - 1) ≤ x ∧ x < 2 ^ L)
theorem lenIs_byte : ∀ n : Fin 256, (n.val = 0 ∧ Lib.bitLen n.val = 0) ∨ (0 < Lib.bitLen n.val ∧ 2 ^ (Lib.bitLen n.val - 1) ≤ n.val ∧ n.val < 2 ^ Lib.bitLen n.val) := by decide +kernel
theorem lenIs_len8 (b : Int) (h0 : 0 ≤ b) (h1 : b ≤ 255) : ∃ L : Nat, Lib.len8 b = (L : Int) ∧ L ≤ 8 ∧ LenIs b.toNat L :=
  ⟨Lib.bitLen b.toNat, Lib.len8_of b h0 h1, Lib.bitLen_le8' b h0 h1, lenIs_byte ⟨b.toNat, by omega⟩⟩
theorem lenIs_up (k x L : Nat) (h : LenIs (x / 2 ^ k) L) (hx : 2 ^ k ≤ x) : LenIs x (L + k) := by
  have hp : 0 < 2 ^ k := Nat.two_pow_pos k
  rcases h with ⟨h0, _⟩ | ⟨hL, ha, hb⟩
  · have := Nat.div_pos hx hp; omega
  · refine .inr ⟨by omega, ?_, ?_⟩
    · rw [show L + k - 1 = L - 1 + k from by omega, Nat.pow_add]
      exact (Nat.le_div_iff_mul_le hp).1 ha
    · rw [Nat.pow_add]
      exact (Nat.div_lt_iff_lt_mul hp).1 hb

def SomeLen (x : Nat) (w : World) (e : Ending) (w' : World) : Prop := ∃ L : Nat, L ≤ 64 ∧ LenIs x L ∧ e = .returned (.int .i64 L) ∧ w = w'

theorem len_end (k : Nat) (x b : Int) (w : World) (hk : k ≤ 56) (h0 : 0 ≤ b) (h1 : b ≤ 255) (hb : b.toNat = x.toNat / 2 ^ k) (hx : 2 ^ k ≤ x.toNat ∨ k = 0) {V : Int} (hV : 0 ≤ Lib.len8 b → Lib.len8 b ≤ 8 → V = Lib.len8 b + k) :
    SomeLen x.toNat w (.returned (.int .i64 V)) w := by
  obtain ⟨L, e, hL, hi⟩ := lenIs_len8 b h0 h1
  rw [hb] at hi
  have hv := hV (by omega) (by omega)
  refine ⟨L + k, by omega, ?_, congrArg Ending.returned (congrArg (Value.int IntKind.i64) (by omega)), rfl⟩
  rcases hx with hx | rfl
  · exact lenIs_up k _ L hi hx
  · simpa using hi

set_option maxHeartbeats 4000000 in
set_option maxRecDepth 100000 in
theorem len64 (x : Int) (w : World) (h0 : 0 ≤ x) (h1 : x ≤ 18446744073709551615) :
    Calls Try.prog 90 #[.int .u64 x] w (SomeLen x.toNat w) := by
  go_enter Try.func90, Try.ntmps90
  go_wp2
  all_goals go_ret
  · exact len_end 56 x (x / 4294967296 / 65536 / 256 % 256) w (by decide) (by omega) (by omega) (by omega) (.inl (by omega)) (fun _ _ => by omega)
  · exact len_end 48 x (x / 4294967296 / 65536 % 256) w (by decide) (by omega) (by omega) (by omega) (.inl (by omega)) (fun _ _ => by omega)
  · exact len_end 40 x (x / 4294967296 / 256 % 256) w (by decide) (by omega) (by omega) (by omega) (.inl (by omega)) (fun _ _ => by omega)
  · exact len_end 32 x (x / 4294967296 % 256) w (by decide) (by omega) (by omega) (by omega) (.inl (by omega)) (fun _ _ => by omega)
  · exact len_end 24 x (x / 65536 / 256 % 256) w (by decide) (by omega) (by omega) (by omega) (.inl (by omega)) (fun _ _ => by omega)
  · exact len_end 16 x (x / 65536 % 256) w (by decide) (by omega) (by omega) (by omega) (.inl (by omega)) (fun _ _ => by omega)
  · exact len_end 8 x (x / 256 % 256) w (by decide) (by omega) (by omega) (by omega) (.inl (by omega)) (fun _ _ => by omega)
  · exact len_end 0 x (x % 256) w (by decide) (by omega) (by omega) (by omega) (.inr rfl) (fun _ _ => by omega)

/-- How far a number is shifted till its highest bit stands at the top. -/
def LzIs (x s : Nat) : Prop := s ≤ 63 ∧ 9223372036854775808 ≤ x * 2 ^ s ∧ x * 2 ^ s < 18446744073709551616
def SomeLz (x : Nat) (w : World) (e : Ending) (w' : World) : Prop := ∃ s : Nat, LzIs x s ∧ e = .returned (.int .i64 s) ∧ w = w'
theorem lzIs_of (x L : Nat) (h0 : 0 < x) (hL : L ≤ 64) (h : LenIs x L) : LzIs x (64 - L) := by
  rcases h with ⟨h1, _⟩ | ⟨h1, h2, h3⟩
  · omega
  · refine ⟨by omega, ?_, ?_⟩
    · have := Nat.mul_le_mul_right (2 ^ (64 - L)) h2
      rw [← Nat.pow_add, show L - 1 + (64 - L) = 63 from by omega] at this
      simpa using this
    · have := (Nat.mul_lt_mul_right (Nat.two_pow_pos (64 - L))).2 h3
      rw [← Nat.pow_add, show L + (64 - L) = 64 from by omega] at this
      simpa using this

theorem lz64 (x : Int) (w : World) (h0 : 0 < x) (h1 : x ≤ 18446744073709551615) :
    Calls Try.prog 84 #[.int .u64 x] w (SomeLz x.toNat w) := by
  go_enter Try.func84, Try.ntmps84
  go_wp2_with (go_at_call 90; refine (len64 x _ (by omega) h1).mono ?_; rintro e w' ⟨L, hL, hi, rfl, rfl⟩)
  go_ret
  refine ⟨64 - L, lzIs_of x.toNat L (by omega) hL hi, congrArg Ending.returned (congrArg (Value.int IntKind.i64) ?_), rfl⟩
  omega

end Go.Proofs.Ytfopcipapphogaa
