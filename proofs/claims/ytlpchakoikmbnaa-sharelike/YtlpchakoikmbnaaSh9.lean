/- Package share: Gets and Level at whatever arguments. -/
import Derived.Test.YtlpchakoikmbnaaSh8
namespace Go.Proofs.Ytlpchakoikmbnaa
open Go.RowKit Go.Maps

/-- What all get, and the error. -/
structure Gv (A : Int) (xs ys : List Int) (gs : List (Int × Int)) (E N D : Int) : Prop where
  err : wrongL A xs ys = E
  way : ((E = 1 ∨ E = 2) ∧ gs = [] ∧ N = 0 ∧ D = 0) ∨ (E = 0 ∧ Right A xs ys ∧ Level A (fn xs) (fn ys) xs.length N D ∧ gs = gets (fn xs) (fn ys) N D xs.length)
theorem gv_any (A : Int) (xs ys : List Int) : ∃ gs E N D, Gv A xs ys gs E N D := by
  rcases wrongL_way A xs ys with ⟨h, _⟩ | ⟨h, _⟩ | ⟨h, hR⟩
  · exact ⟨[], 1, 0, 0, h, .inl ⟨.inl rfl, rfl, rfl, rfl⟩⟩
  · exact ⟨[], 2, 0, 0, h, .inl ⟨.inr rfl, rfl, rfl, rfl⟩⟩
  · obtain ⟨N, D, hL⟩ := hR.level
    exact ⟨_, 0, N, D, h, .inr ⟨rfl, hR, hL, rfl⟩⟩
namespace Gv
variable {A : Int} {xs ys : List Int} {gs : List (Int × Int)} {E N D : Int} (h : Gv A xs ys gs E N D)
include h
theorem gets {w : World} {P Q : Option Addr} (hx : IntsIn w P xs) (hy : IntsIn w Q ys) (cx cy : Nat) : Calls Try.prog 9 #[.int .i64 A, .slice P xs.length cx, .slice Q ys.length cy] w (Got w gs E) := by
  rcases h.way with ⟨h1, rfl, _, _⟩ | ⟨rfl, h1, h2, rfl⟩
  · exact gets_bad hx hy cx cy A E h.err h1
  · exact gets_ok hx hy cx cy h1 h2
theorem level {w : World} {P Q : Option Addr} (hx : IntsIn w P xs) (hy : IntsIn w Q ys) (cx cy : Nat) : Calls Try.prog 8 #[.int .i64 A, .slice P xs.length cx, .slice Q ys.length cy] w (Levelled w N D E) := by
  rcases h.way with ⟨h1, _, rfl, rfl⟩ | ⟨rfl, h1, h2, _⟩
  · exact level_bad hx hy cx cy A E h.err h1
  · exact level_ok hx hy cx cy h1 h2
theorem few : gs.length ≤ 16 := by
  rcases h.way with ⟨_, rfl, _⟩ | ⟨_, h1, _, rfl⟩
  · exact Nat.zero_le _
  · rw [gets_length]
    exact h1.few
end Gv
/-- What one gets is small. -/
theorem g_bounds {A : Int} {xs ys : List Int} (hR : Right A xs ys) {N D : Int} (hL : Level A (fn xs) (fn ys) xs.length N D) {k : Nat} (hk : k < xs.length) : (0 ≤ gN (fn xs) (fn ys) N D k ∧ gN (fn xs) (fn ys) N D k ≤ 1048576000) ∧ 1 ≤ gD (fn xs) (fn ys) N D k ∧ gD (fn xs) (fn ys) N D k ≤ 16000 := by
  have hb := level_bounds hR hL
  have hw := hR.want hk
  have hv := hR.weight hk
  have h0 := gN_nonneg hL hR.all.1 (fun j hj => (hR.want hj).1) (fun j hj => (hR.weight hj).1) hk
  have h1 := gD_pos hL k
  refine ⟨⟨h0, ?_⟩, h1, ?_⟩
  · rcases g_way (fn xs) (fn ys) N D k with ⟨_, h2, _⟩ | ⟨_, h2, _⟩
    · rw [h2]
      have e1 := Int.mul_le_mul_of_nonneg_left hb.1.2 (show 0 ≤ fn ys k by omega)
      omega
    · rw [h2]
      omega
  · rcases g_way (fn xs) (fn ys) N D k with ⟨_, _, h3⟩ | ⟨_, _, h3⟩
    · rw [h3]; omega
    · rw [h3]; omega
end Go.Proofs.Ytlpchakoikmbnaa
