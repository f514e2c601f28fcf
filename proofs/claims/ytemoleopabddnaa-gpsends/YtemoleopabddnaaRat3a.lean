/- The reference's NewRat: a contract. -/
import Derived.Test.YtemoleopabddnaaRat2
namespace Go.Proofs.Ytemoleopabddnaa
open Go.RowKit

/-- A call made a fraction. -/
def NewRat (w : World) (x y : Int) (e : Ending) (w' : World) : Prop := ∃ g : Nat, w.heap.size ≤ g ∧ e = .returned (.pointer (some ⟨g, 0, none⟩)) ∧ Below w.heap.size w w' ∧ RatAt w' g x y

theorem setFrac_int (gz ga gb : Nat) (a b : Int) (w : World) (hz : RatRoom w gz) (ha : IntAt w ga a) (hb : IntAt w gb b) (h0 : 0 < b) (la : a.natAbs < 18446744073709551616) (lb : b < 18446744073709551616) :
    Calls Try.prog 32 #[.pointer (some ⟨gz, 0, none⟩), .pointer (some ⟨ga, 0, none⟩), .pointer (some ⟨gb, 0, none⟩)] w fun e w' =>
      e = .returned (.pointer (some ⟨gz, 0, none⟩)) ∧ w.grownBy w' (some gz) ∧ RatAt w' gz (lN a b) (lD a b) := by
  obtain ⟨b, rfl⟩ := Int.eq_ofNat_of_zero_le (show 0 ≤ b by omega)
  exact setFrac_any gz ga gb a b w hz ha hb (by omega) la (by omega)

theorem newRat_any (a b : Int) (w : World) (h0 : -9223372036854775808 ≤ a) (h1 : a < 9223372036854775808) (h2 : 0 < b) (h3 : b < 9223372036854775808) :
    Calls Try.prog 15 #[.int .i64 a, .int .i64 b] w (NewRat w (lN a b) (lD a b)) := by
  obtain ⟨V, hV⟩ : ∃ V, w.alloc (.cells #[.bool false, .slice none 0 0, .bool false, .slice none 0 0] 47) = V := ⟨_, rfl⟩
  have A1 : Below w.heap.size w V := hV ▸ (Below.refl _ _).alloc (Nat.le_refl _) _
  have R1 : RatRoom V w.heap.size := hV ▸ rat_new w
  have s0 := A1.size
  go_enter Try.func15, Try.ntmps15
  go_wp2_with fail
  (try rw [hV])
  refine (newInt_z a V h0 h1).mono ?_
  rintro e w1 ⟨ga, hga, rfl, b1, ia⟩
  go_wp2_with fail
  refine (newInt_z b w1 (by omega) h3).mono ?_
  rintro e w2 ⟨gb, hgb, rfl, b2, ib⟩
  have B2 : Below w.heap.size w w2 := below_of (below_of A1 b1 A1.size) b2 (by have := b1.size; omega)
  go_wp2_with fail
  refine (setFrac_int w.heap.size ga gb a b w2 ((R1.below b1).below b2) (ia.below b2) ib h2 (by omega) (by omega)).mono ?_
  rintro e w3 ⟨rfl, g3, i3⟩
  go_wp2
  go_ret
  exact ⟨_, Nat.le_refl _, rfl, below_of_grown B2 g3 (Nat.le_refl _), i3⟩

end Go.Proofs.Ytemoleopabddnaa
