/- Numbers as rows of digits of 32 bits, and how the reference's Int lies in memory: notions and plain facts. -/
import Derived.Test.YtemoleopabddnaaWd0
import Derived.Deep.OwnRows
import Derived.Deep.Draws
import Derived.Below
import Derived.Lib.Hide
namespace Go.Proofs.Ytemoleopabddnaa
open Go.RowKit

/-! ### digits -/
def val : Nat → (Nat → Nat) → Nat
  | 0, _ => 0
  | n + 1, f => val n f + f n * 4294967296 ^ n
def Small (n : Nat) (f : Nat → Nat) : Prop := ∀ j, j < n → f j < 4294967296
theorem Small.le {n m : Nat} {f : Nat → Nat} (h : Small n f) (hm : m ≤ n) : Small m f := fun j hj => h j (by omega)
theorem val_congr {n : Nat} {f g : Nat → Nat} (h : ∀ j, j < n → f j = g j) : val n f = val n g := by
  induction n with
  | zero => rfl
  | succ n ih => simp only [val]; rw [ih (fun j hj => h j (by omega)), h n (by omega)]
theorem val_lt {n : Nat} {f : Nat → Nat} (h : Small n f) : val n f < 4294967296 ^ n := by
  induction n with
  | zero => simp [val]
  | succ n ih =>
    have h1 := ih (h.le (by omega))
    have h2 := Nat.mul_le_mul_right (4294967296 ^ n) (show f n + 1 ≤ 4294967296 from h n (by omega))
    simp only [val, Nat.pow_succ]
    rw [Nat.add_mul, Nat.one_mul] at h2
    rw [Nat.mul_comm (4294967296 ^ n)]
    omega
theorem val_zeros {n L : Nat} {f : Nat → Nat} (hn : n ≤ L) (h : ∀ j, n ≤ j → j < L → f j = 0) : val L f = val n f := by
  induction L with
  | zero => rw [show n = 0 by omega]
  | succ L ih =>
    rcases Nat.eq_or_lt_of_le hn with rfl | hlt
    · rfl
    · simp only [val]
      rw [h L (by omega) (by omega), Nat.zero_mul, Nat.add_zero]
      exact ih (by omega) (fun j h1 h2 => h j h1 (by omega))
theorem val_ge {n : Nat} {f : Nat → Nat} (h0 : 0 < n) (h : f (n - 1) ≠ 0) : 4294967296 ^ (n - 1) ≤ val n f := by
  obtain ⟨m, rfl⟩ : ∃ m, n = m + 1 := ⟨n - 1, by omega⟩
  have : 1 * 4294967296 ^ m ≤ f m * 4294967296 ^ m := Nat.mul_le_mul_right _ (by simp at h; omega)
  simp only [val, Nat.add_sub_cancel]
  omega
/-- A number below 2^(32 k) that is written without noughts in front has k digits at most. -/
theorem len_le {n k : Nat} {f : Nat → Nat} (hn : 0 < n → f (n - 1) ≠ 0) (h : val n f < 4294967296 ^ k) : n ≤ k := by
  rcases Nat.eq_zero_or_pos n with h0 | h0
  · omega
  · have h1 := val_ge h0 (hn h0)
    have h2 := Nat.lt_of_le_of_lt h1 h
    have := (Nat.pow_lt_pow_iff_right (show 1 < 4294967296 by decide)).1 h2
    omega

theorem val_const0 (n : Nat) : val n (fun _ => 0) = 0 := by
  induction n with
  | zero => rfl
  | succ n ih => simp [val, ih]

/-- Numbers are kept below this one. -/
def limK : Nat := 100000
def lim : Nat := 4294967296 ^ limK
theorem lim_ge {k : Nat} (h : k ≤ limK) : 4294967296 ^ k ≤ lim := Nat.pow_le_pow_right (by decide) h
def Fits (n : Nat) : Prop := n < lim
theorem Fits.of {n k : Nat} (h : n < 4294967296 ^ k) (hk : k ≤ limK) : Fits n := Nat.lt_of_lt_of_le h (lim_ge hk)
theorem Fits.lt {n : Nat} (h : Fits n) : n < lim := h
theorem Fits.mk {n : Nat} (h : n < lim) : Fits n := h
theorem Fits.le {n m : Nat} (h : Fits n) (hm : m ≤ n) : Fits m := Nat.lt_of_le_of_lt hm h
theorem len_lim {n : Nat} {f : Nat → Nat} (hn : 0 < n → f (n - 1) ≠ 0) (h : Fits (val n f)) : n ≤ 100000 := len_le (k := limK) hn h

/-! ### in memory -/
def two (a b : Value) : Nat → Value := fun j => if j = 0 then a else b
def sg (s : Bool) (n : Nat) : Int := if s then -(n : Int) else n
/-- The digits f, n of them, lie where a slice with address A begins. -/
def Dig (w : World) (A : Option Addr) (n : Nat) (f : Nat → Nat) : Prop :=
  0 < n → ∃ (b m : Nat) (F : Nat → Value), A = some ⟨b, 0, none⟩ ∧ n ≤ m ∧ w.rowIs b 62 m F ∧ ∀ j, j < n → F j = .int .u32 (f j)
theorem Dig.le {w : World} {A : Option Addr} {n m : Nat} {f : Nat → Nat} (h : Dig w A n f) (hm : m ≤ n) : Dig w A m f := fun h0 => by
  obtain ⟨b, k, F, hA, hk, hr, hf⟩ := h (by omega)
  exact ⟨b, k, F, hA, by omega, hr, fun j hj => hf j (by omega)⟩
theorem Dig.cell {w : World} {b n : Nat} {f : Nat → Nat} (h : Dig w (some ⟨b, 0, none⟩) n f) {j : Nat} (hj : j < n) : w.cell? ⟨b, j, none⟩ = some (.int .u32 (f j)) ∧ b < w.heap.size := by
  obtain ⟨b', k, F, hA, hk, hr, hf⟩ := h (by omega)
  simp only [Option.some.injEq, Addr.mk.injEq] at hA
  obtain ⟨rfl, _⟩ := hA
  rw [← hf j hj]
  exact ⟨hr.cell (by omega), hr.lt⟩
theorem Dig.addr {w : World} {A : Option Addr} {n : Nat} {f : Nat → Nat} (h : Dig w A n f) (h0 : 0 < n) : ∃ b, A = some ⟨b, 0, none⟩ := by
  obtain ⟨b, k, F, hA, _⟩ := h h0
  exact ⟨b, hA⟩
/-- Only block g, and what is new, has turned: the digits stay where block g is a struct. -/
theorem Dig.only {w w' : World} {A : Option Addr} {n g k : Nat} {f : Nat → Nat} {h : Nat → Value} (d : Dig w A n f) (hg : w.rowIs g 45 k h) (ho : w.grownBy w' (some g)) : Dig w' A n f := fun h0 => by
  obtain ⟨b, m, F, hA, hk, hr, hf⟩ := d h0
  exact ⟨b, m, F, hA, hk, hr.of_block (ho.block b hr.lt (fun e => row_ne hr hg (by decide) (by injection e))), hf⟩
theorem Dig.below {w w' : World} {A : Option Addr} {n : Nat} {f : Nat → Nat} (d : Dig w A n f) (hb : Below w.heap.size w w') : Dig w' A n f := fun h0 => by
  obtain ⟨b, m, F, hA, hk, hr, hf⟩ := d h0
  exact ⟨b, m, F, hA, hk, hr.of_block (hb.block b hr.lt), hf⟩

/-- The number z lies in the struct in block g. -/
def IntAt (w : World) (g : Nat) (z : Int) : Prop :=
  ∃ (s : Bool) (A : Option Addr) (n c : Nat) (f : Nat → Nat), w.rowIs g 45 2 (two (.bool s) (.slice A n c)) ∧ n ≤ c ∧ (c ≤ 9223372036854775807 ∧ n ≤ 100000) ∧ Dig w A n f ∧ Small n f ∧ (0 < n → f (n - 1) ≠ 0) ∧ (n = 0 → s = false) ∧ z = sg s (val n f)
/-- Some struct of the type lies in block g: it may be written. -/
def Room (w : World) (g : Nat) : Prop := ∃ h : Nat → Value, w.rowIs g 45 2 h
theorem IntAt.room {w : World} {g : Nat} {z : Int} (h : IntAt w g z) : Room w g := by
  obtain ⟨s, A, n, c, f, hr, _⟩ := h
  exact ⟨_, hr⟩
theorem IntAt.below {w w' : World} {g : Nat} {z : Int} (h : IntAt w g z) (hb : Below w.heap.size w w') : IntAt w' g z := by
  obtain ⟨s, A, n, c, f, hr, h1, h2, hd, h3⟩ := h
  exact ⟨s, A, n, c, f, hr.of_block (hb.block g hr.lt), h1, h2, hd.below hb, h3⟩
theorem IntAt.only {w w' : World} {g k : Nat} {z : Int} (h : IntAt w g z) (hk : Room w k) (ho : w.grownBy w' (some k)) (hne : g ≠ k) : IntAt w' g z := by
  obtain ⟨s, A, n, c, f, hr, h1, h2, hd, h3⟩ := h
  obtain ⟨_, hk⟩ := hk
  exact ⟨s, A, n, c, f, hr.of_block (ho.block g hr.lt (by simp [hne])), h1, h2, hd.only hk ho, h3⟩
theorem grown_trans {a b c : World} {g : Nat} (h : a.grownBy b (some g)) (k : b.grownBy c (some g)) : a.grownBy c (some g) :=
  ⟨k.os.trans h.os, k.tape.trans h.tape, k.output.trans h.output, Nat.le_trans h.size k.size, fun i hi hn => (k.block i (Nat.lt_of_lt_of_le hi h.size) hn).trans (h.block i hi hn)⟩
theorem grown_of_below {a b : World} {g : Nat} (h : Below a.heap.size a b) : a.grownBy b (some g) := ⟨h.os, h.tape, h.output, h.size, fun k hk _ => h.block k hk⟩
theorem grown_drewN {a b : World} {r : Option Nat} (h : a.grownBy b r) (n : Nat) : a.grownBy (b.drewN n) r := ⟨h.os, h.tape, h.output, h.size, h.block⟩
theorem grown_alloc {a b : World} {r : Option Nat} (h : a.grownBy b r) (o : Obj) : a.grownBy (b.alloc o) r :=
  ⟨h.os, h.tape, h.output, Nat.le_trans h.size (by simp), fun i hi hn => (Below.heap_alloc b o i (Nat.lt_of_lt_of_le hi h.size)).trans (h.block i hi hn)⟩
theorem grown_set {a b : World} {g : Nat} (h : a.grownBy b (some g)) {p : Addr} (hp : p.block = g ∨ a.heap.size ≤ p.block) (u : Value) : a.grownBy (b.setCell p u) (some g) :=
  ⟨h.os, h.tape, h.output, by simpa [World.setCell] using h.size, fun i hi hn => (Below.heap_setCell b p u i (by rcases hp with hp | hp <;> (intro e; subst e; first | exact hn (by rw [hp]) | omega))).trans (h.block i hi hn)⟩
theorem grown_here {a b : World} {g : Nat} (h : a.grownBy b (some g)) (o : Nat) (u : Value) : a.grownBy (b.setCell ⟨g, o, none⟩ u) (some g) := grown_set h (p := ⟨g, o, none⟩) (.inl rfl) u
attribute [irreducible] Fits
attribute [irreducible] lim
end Go.Proofs.Ytemoleopabddnaa
