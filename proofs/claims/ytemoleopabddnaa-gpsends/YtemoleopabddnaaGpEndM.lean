/- Processor sharing, plain: from one moment at which a flow is done to the next. Each weight has got N / D till then. -/
import Derived.Test.YtemoleopabddnaaGpSort
namespace Go.Proofs.Ytemoleopabddnaa

/-- What is left of j, times D. -/
def rst (b v : Nat → Int) (N D : Int) (j : Nat) : Int := b j * D - v j * N
/-- What has gone till then, times D. -/
def gone (b v : Nat → Int) (n : Nat) (N D : Int) : Int := su (fun j => min (b j * D) (v j * N)) n
/-- Who has something left. -/
def opn (b v : Nat → Int) (N D : Int) (j : Nat) : Prop := v j * N < b j * D
instance (b v : Nat → Int) (N D : Int) (j : Nat) : Decidable (opn b v N D j) := inferInstanceAs (Decidable (_ < _))
/-- The weights of those among the first i. -/
def osum (b v : Nat → Int) (N D : Int) (i : Nat) : Int := su (fun j => if opn b v N D j then v j else 0) i
/-- How many they are. -/
def ocnt (b v : Nat → Int) (N D : Int) (i : Nat) : Int := su (fun j => if opn b v N D j then 1 else 0) i
variable {b v : Nat → Int} {n : Nat} {N D : Int}
theorem rst_pos {j : Nat} : 0 < rst b v N D j ↔ opn b v N D j := by unfold rst opn; omega
/-- The bounds within which all stays. -/
structure Lim (b v : Nat → Int) (N D : Int) : Prop where
  b0 : ∀ j, 0 ≤ b j ∧ b j ≤ 1048576
  v0 : ∀ j, 0 ≤ v j ∧ v j ≤ 1000
  N0 : 0 ≤ N ∧ N ≤ 1048576
  D0 : 1 ≤ D ∧ D ≤ 1000
theorem prod_in {x y A B : Int} (hx : 0 ≤ x ∧ x ≤ A) (hy : 0 ≤ y ∧ y ≤ B) (hA : 0 ≤ A) : 0 ≤ x * y ∧ x * y ≤ A * B :=
  ⟨Int.mul_nonneg hx.1 hy.1, Int.mul_le_mul hx.2 hy.2 hy.1 hA⟩
namespace Lim
variable (h : Lim b v N D)
include h
theorem bd (j : Nat) : 0 ≤ b j * D ∧ b j * D ≤ 1048576000 := prod_in (h.b0 j) ⟨by have := h.D0; omega, h.D0.2⟩ (by decide)
theorem vn (j : Nat) : 0 ≤ v j * N ∧ v j * N ≤ 1048576000 := by
  have := prod_in (h.v0 j) h.N0 (by decide)
  omega
theorem rst (j : Nat) : -1048576000 ≤ rst b v N D j ∧ rst b v N D j ≤ 1048576000 := by
  have h1 := h.bd j
  have h2 := h.vn j
  unfold Proofs.Ytemoleopabddnaa.rst
  omega
theorem gone {n : Nat} (hn : n ≤ 16) : 0 ≤ gone b v n N D ∧ gone b v n N D ≤ 16777216000 := by
  have h1 : Proofs.Ytemoleopabddnaa.gone b v n N D ≤ 1048576000 * (n : Int) := su_bound fun j _ => by have := h.bd j; omega
  exact ⟨su_nonneg fun j _ => by have h1 := h.bd j; have h2 := h.vn j; omega, by omega⟩
theorem osum {i : Nat} (hn : i ≤ 16) : 0 ≤ osum b v N D i ∧ osum b v N D i ≤ 16000 := by
  have h1 : Proofs.Ytemoleopabddnaa.osum b v N D i ≤ 1000 * (i : Int) := su_bound fun j _ => by have := h.v0 j; split <;> omega
  exact ⟨su_nonneg fun j _ => by have := h.v0 j; split <;> omega, by omega⟩
end Lim
/-- Who is done then, is done as it is said. -/
theorem gone_done {k : Nat} (hD : 1 ≤ D) (hv : 0 ≤ v k) (hk : b k * D = v k * N) : gone b v n N D * v k = gT b v n k * D := by
  unfold gone gT
  rw [Int.mul_comm, ← su_mul, Int.mul_comm _ D, ← su_mul]
  refine su_congr fun j _ => ?_
  rw [← min_mul hv, ← min_mul (show 0 ≤ D by omega)]
  have e1 : v k * (b j * D) = D * (b j * v k) := by ac_rfl
  have e2 : v k * (v j * N) = D * (v j * b k) := by
    rw [show v k * (v j * N) = v j * (v k * N) by ac_rfl, ← hk]
    ac_rfl
  rw [e1, e2]
/-- Who is nearest to be done. -/
structure Near (b v : Nat → Int) (N D : Int) (n m : Nat) : Prop where
  open_ : opn b v N D m
  least : ∀ j, j < n → opn b v N D j → b m * v j ≤ b j * v m
theorem Near.step {m : Nat} (h : Near b v N D n m) (hD : 1 ≤ D) (hv : ∀ j, j < n → 1 ≤ v j) (hm : m < n) {j : Nat} (hj : j < n) :
    D * min (b j * v m) (v j * b m) = v m * min (b j * D) (v j * N) + (rst b v N D m) * (if opn b v N D j then v j else 0) := by
  have vm := hv m hm
  have vj := hv j hj
  by_cases c : opn b v N D j
  · have h1 := h.least j hj c
    rw [if_pos c]
    have c : v j * N < b j * D := c
    rw [show min (b j * v m) (v j * b m) = v j * b m by rw [Int.mul_comm (v j)]; omega, show min (b j * D) (v j * N) = v j * N by omega]
    unfold rst
    rw [Int.sub_mul]
    have e1 : D * (v j * b m) = b m * D * v j := by ac_rfl
    have e2 : v m * (v j * N) = v m * N * v j := by ac_rfl
    omega
  · rw [if_neg c]
    have c : b j * D ≤ v j * N := by unfold opn at c; omega
    have hm2 : v m * N < b m * D := h.open_
    have h1 := (cross_le (a := b j) (b := N) (c := b m) (x := v j) (y := D) (z := v m) vj hD vm (by rw [Int.mul_comm N]; exact c) (by rw [Int.mul_comm N]; omega)).1
    rw [show min (b j * v m) (v j * b m) = b j * v m by rw [Int.mul_comm (v j)]; omega, show min (b j * D) (v j * N) = b j * D by omega, Int.mul_zero, Int.add_zero]
    ac_rfl
/-- What has gone when that one is done. -/
theorem Near.gone {m : Nat} (h : Near b v N D n m) (hD : 1 ≤ D) (hv : ∀ j, j < n → 1 ≤ v j) (hm : m < n) :
    gT b v n m * D = gone b v n N D * v m + rst b v N D m * osum b v N D n := by
  unfold gT Proofs.Ytemoleopabddnaa.gone osum
  rw [Int.mul_comm, ← su_mul, Int.mul_comm _ (v m), ← su_mul, ← su_mul, ← su_add]
  exact su_congr fun j hj => h.step hD hv hm hj
/-- The next level, for who has something left and for who is done. -/
theorem Near.next {m : Nat} (h : Near b v N D n m) (hD : 1 ≤ D) (hv : ∀ j, j < n → 1 ≤ v j) (hm : m < n) {j : Nat} (hj : j < n) : (opn b v N D j → v j * b m ≤ b j * v m) ∧ (¬ opn b v N D j → b j * v m ≤ v j * b m) := by
  refine ⟨fun c => by rw [Int.mul_comm (v j)]; exact h.least j hj c, fun c => ?_⟩
  have c : b j * D ≤ v j * N := by unfold opn at c; omega
  have hm2 : v m * N < b m * D := h.open_
  have h1 := (cross_le (a := b j) (b := N) (c := b m) (x := v j) (y := D) (z := v m) (hv j hj) hD (hv m hm) (by rw [Int.mul_comm N]; exact c) (by rw [Int.mul_comm N]; omega)).1
  rw [Int.mul_comm (v j)]
  exact h1
theorem Near.count {m : Nat} (h : Near b v N D n m) (hD : 1 ≤ D) (hv : ∀ j, j < n → 1 ≤ v j) (hm : m < n) : ocnt b v (b m) (v m) n < ocnt b v N D n := by
  refine su_lt (fun j hj => ?_) ⟨m, hm, ?_⟩
  · have h1 := h.next hD hv hm hj
    by_cases c : opn b v N D j
    · rw [if_pos c]; split <;> decide
    · have := h1.2 c
      rw [if_neg c, if_neg (by unfold opn; omega)]
      decide
  · rw [if_neg (by unfold opn; rw [Int.mul_comm (v m)]; omega), if_pos h.open_]
    decide
theorem ocnt_le (b v : Nat → Int) (N D : Int) (n : Nat) : ocnt b v N D n ≤ (n : Int) := by
  have h1 : ocnt b v N D n ≤ 1 * (n : Int) := su_bound fun j _ => by split <;> decide
  omega
theorem ocnt_nonneg (b v : Nat → Int) (N D : Int) (n : Nat) : 0 ≤ ocnt b v N D n := su_nonneg fun j _ => by split <;> decide
/-- Which of two is nearer. -/
theorem near_cmp (hD : 1 ≤ D) (k m : Nat) : cmpI (rst b v N D k * (D * v m)) (rst b v N D m * (D * v k)) = cmpI (b k * v m) (b m * v k) := by
  have e1 : rst b v N D k * (D * v m) = D * D * (b k * v m) - D * (v k * v m * N) := by
    unfold rst
    rw [Int.sub_mul]
    congr 1 <;> ac_rfl
  have e2 : rst b v N D m * (D * v k) = D * D * (b m * v k) - D * (v k * v m * N) := by
    unfold rst
    rw [Int.sub_mul]
    congr 1 <;> ac_rfl
  rw [e1, e2]
  have hp : 0 < D * D := Int.mul_pos (by omega) (by omega)
  generalize D * (v k * v m * N) = Z
  unfold cmpI
  rcases Int.lt_trichotomy (b k * v m) (b m * v k) with c | c | c
  · have := Int.mul_lt_mul_of_pos_left c hp
    rw [if_pos (by omega), if_pos c]
  · rw [c, if_neg (by omega), if_neg (by omega), if_neg (by omega), if_neg (by omega)]
  · have := Int.mul_lt_mul_of_pos_left c hp
    rw [if_neg (by omega), if_pos (by omega), if_neg (by omega), if_pos c]
/-- What is left at the next level. -/
theorem rst_next (k m : Nat) : (rst b v N D k * (D * v m * 1) - rst b v N D m * v k * D) * v m = rst b v (b m) (v m) k * (D * (D * v m * 1)) := by
  unfold rst
  have e1 : (b k * D - v k * N) * (D * v m * 1) - (b m * D - v m * N) * v k * D = (b k * v m - v k * b m) * (D * D) := by
    rw [Int.mul_one, Int.sub_mul, Int.sub_mul, Int.sub_mul, Int.sub_mul]
    have a1 : b k * D * (D * v m) = b k * v m * (D * D) := by ac_rfl
    have a2 : v k * N * (D * v m) = v m * N * v k * D := by ac_rfl
    have a3 : b m * D * v k * D = v k * b m * (D * D) := by ac_rfl
    omega
  rw [e1, Int.mul_one]
  ac_rfl
theorem osum_succ (i : Nat) : osum b v N D (i + 1) = osum b v N D i + (if opn b v N D i then v i else 0) := su_succ _ _
end Go.Proofs.Ytemoleopabddnaa
