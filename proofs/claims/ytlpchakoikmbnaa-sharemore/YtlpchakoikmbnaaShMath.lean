/- Sharing by weights, plain: the level; what each gets. -/
import Derived.Test.YtlpchakoikmbnaaSu
namespace Go.Proofs.Ytlpchakoikmbnaa

/-- Is one short at the level N over D? -/
def isS (w v : Nat → Int) (N D : Int) (k : Nat) : Bool := decide (v k * N < w k * D)
/-- The weights of those who are short; the wants of the others. -/
def dn (w v : Nat → Int) (N D : Int) (n : Nat) : Int := su (fun k => if isS w v N D k = true then v k else 0) n
def kp (w v : Nat → Int) (N D : Int) (n : Nat) : Int := su (fun k => if isS w v N D k = true then 0 else w k) n
/-- What is shared out at a level, times D. -/
def fl (w v : Nat → Int) (N D : Int) (n : Nat) : Int := su (fun k => min (w k * D) (v k * N)) n
theorem fl_eq (w v : Nat → Int) (N D : Int) (n : Nat) : fl w v N D n = kp w v N D n * D + dn w v N D n * N := by
  unfold fl kp dn
  rw [Int.mul_comm _ D, Int.mul_comm _ N, ← su_mul, ← su_mul, ← su_add]
  refine su_congr fun k _ => ?_
  by_cases c : v k * N < w k * D
  · have h : isS w v N D k = true := decide_eq_true c
    rw [h, if_pos rfl, if_pos rfl, Int.mul_zero, Int.mul_comm N]
    omega
  · have h : isS w v N D k = false := decide_eq_false c
    rw [h, if_neg (by decide), if_neg (by decide), Int.mul_zero, Int.mul_comm D]
    omega
/-- A level: everything is shared out, and somebody is short. -/
structure Lv (A : Int) (w v : Nat → Int) (n : Nat) (N D : Int) : Prop where
  pos : 0 < D
  den : dn w v N D n = D
  num : A - kp w v N D n = N
theorem Lv.fl {A : Int} {w v : Nat → Int} {n : Nat} {N D : Int} (h : Lv A w v n N D) : fl w v N D n = A * D := by
  rw [fl_eq, h.den, show kp w v N D n = A - N by have := h.num; omega, Int.sub_mul, Int.mul_comm D N]
  omega
/-- Somebody is short. -/
theorem Lv.one {A : Int} {w v : Nat → Int} {n : Nat} {N D : Int} (h : Lv A w v n N D) : ∃ k, k < n ∧ v k * N < w k * D := by
  have h0 := h.pos
  rw [← h.den] at h0
  obtain ⟨k, hk, hp⟩ := su_pos h0
  by_cases c : v k * N < w k * D
  · exact ⟨k, hk, c⟩
  · have hs : isS w v N D k = false := decide_eq_false c
    rw [hs, if_neg (by decide)] at hp
    omega
theorem fl_scale (w v : Nat → Int) (N D : Int) (n : Nat) {c : Int} (hc : 0 ≤ c) : fl w v (N * c) (D * c) n = fl w v N D n * c := by
  unfold fl
  refine Eq.trans ?_ (Int.mul_comm c _)
  rw [← su_mul]
  refine su_congr fun k _ => ?_
  rw [← Int.mul_assoc, ← Int.mul_assoc, Int.mul_comm _ c, Int.mul_comm _ c]
  by_cases h : w k * D ≤ v k * N
  · have := Int.mul_le_mul_of_nonneg_left h hc
    rw [show min (w k * D) (v k * N) = w k * D by omega]
    omega
  · have := Int.mul_le_mul_of_nonneg_left (show v k * N ≤ w k * D by omega) hc
    rw [show min (w k * D) (v k * N) = v k * N by omega]
    omega
/-- More to share out, or less wanted: the level is no less. -/
theorem Lv.mono {A A' : Int} {w w' v : Nat → Int} {n : Nat} {N D N' D' : Int} (h : Lv A w v n N D) (h' : Lv A' w' v n N' D') (hA : A ≤ A') (hw : ∀ k, k < n → w' k ≤ w k) (hv : ∀ k, k < n → 1 ≤ v k) : N * D' ≤ N' * D := by
  by_cases c : N * D' ≤ N' * D
  · exact c
  · exfalso
    have hD := h.pos
    have hD' := h'.pos
    have e1 := fl_scale w v N D n (c := D') (by omega)
    have e2 := fl_scale w' v N' D' n (c := D) (by omega)
    rw [h.fl] at e1
    rw [h'.fl] at e2
    have key : Go.Proofs.Ytlpchakoikmbnaa.fl w' v (N' * D) (D' * D) n < Go.Proofs.Ytlpchakoikmbnaa.fl w v (N * D') (D * D') n := by
      unfold Go.Proofs.Ytlpchakoikmbnaa.fl
      have hDD : 0 ≤ D * D' := Int.mul_nonneg (by omega) (by omega)
      have step : ∀ k, k < n → w' k * (D' * D) ≤ w k * (D * D') ∧ v k * (N' * D) < v k * (N * D') := fun k hk => by
        have h1 := Int.mul_le_mul_of_nonneg_right (hw k hk) hDD
        have h2 := Int.mul_lt_mul_of_pos_left (show N' * D < N * D' by omega) (show 0 < v k by have := hv k hk; omega)
        rw [Int.mul_comm D' D]
        exact ⟨h1, h2⟩
      refine su_lt (fun k hk => ?_) ?_
      · obtain ⟨h1, h2⟩ := step k hk
        omega
      · obtain ⟨k, hk, hs⟩ := h'.one
        refine ⟨k, hk, ?_⟩
        obtain ⟨h1, h2⟩ := step k hk
        have h3 := Int.mul_lt_mul_of_pos_right hs hD
        rw [Int.mul_assoc, Int.mul_assoc] at h3
        omega
    rw [e1, e2] at key
    have h4 := Int.mul_le_mul_of_nonneg_right hA (show 0 ≤ D * D' from Int.mul_nonneg (by omega) (by omega))
    rw [Int.mul_assoc, Int.mul_assoc, Int.mul_comm D' D] at key
    omega
/-- The same level: the same are short. -/
theorem isS_scale {w v : Nat → Int} {N D N' D' : Int} (hD : 0 < D) (hD' : 0 < D') (h : N * D' = N' * D) (k : Nat) : isS w v N D k = isS w v N' D' k := by
  unfold isS
  congr 1
  rw [eq_iff_iff]
  have e1 : v k * N * D' = v k * N' * D := by rw [Int.mul_assoc, h, Int.mul_assoc]
  have e2 : w k * D * D' = w k * D' * D := by rw [Int.mul_assoc, Int.mul_assoc, Int.mul_comm D D']
  constructor
  · intro hs
    have := Int.mul_lt_mul_of_pos_right hs hD'
    rw [e1, e2] at this
    exact Int.lt_of_mul_lt_mul_right this (by omega)
  · intro hs
    have := Int.mul_lt_mul_of_pos_right hs hD
    rw [← e1, ← e2] at this
    exact Int.lt_of_mul_lt_mul_right this (by omega)
theorem Lv.unique {A : Int} {w v : Nat → Int} {n : Nat} {N D N' D' : Int} (h : Lv A w v n N D) (h' : Lv A w v n N' D') (hv : ∀ k, k < n → 1 ≤ v k) : N = N' ∧ D = D' := by
  have h1 := h.mono h' (Int.le_refl _) (fun _ _ => Int.le_refl _) hv
  have h2 := h'.mono h (Int.le_refl _) (fun _ _ => Int.le_refl _) hv
  have hs : ∀ k, isS w v N D k = isS w v N' D' k := isS_scale h.pos h'.pos (Int.le_antisymm h1 h2)
  have hd : dn w v N D n = dn w v N' D' n := su_congr fun k _ => by rw [hs k]
  have hk : kp w v N D n = kp w v N' D' n := su_congr fun k _ => by rw [hs k]
  have := h.den; have := h'.den; have := h.num; have := h'.num
  omega
/-- Somebody is short only where more is wanted than there is. -/
theorem Lv.want {A : Int} {w v : Nat → Int} {n : Nat} {N D : Int} (h : Lv A w v n N D) : A < su w n := by
  have hD := h.pos
  have hk : kp w v N D n + su (fun k => if isS w v N D k = true then w k else 0) n = su w n := by
    unfold kp
    rw [← su_add]
    refine su_congr fun k _ => ?_
    split <;> omega
  have hlt : su (fun k => (if isS w v N D k = true then v k else 0) * N) n < su (fun k => (if isS w v N D k = true then w k else 0) * D) n := by
    refine su_lt (fun k _ => ?_) ?_
    · by_cases c : v k * N < w k * D
      · rw [show isS w v N D k = true from decide_eq_true c, if_pos rfl, if_pos rfl]
        omega
      · rw [show isS w v N D k = false from decide_eq_false c, if_neg (by decide), if_neg (by decide)]
        omega
    · obtain ⟨k, hk, hs⟩ := h.one
      refine ⟨k, hk, ?_⟩
      rw [show isS w v N D k = true from decide_eq_true hs, if_pos rfl, if_pos rfl]
      exact hs
  have e1 : su (fun k => (if isS w v N D k = true then v k else 0) * N) n = N * D := by
    rw [su_congr (g := fun k => N * (if isS w v N D k = true then v k else 0)) (fun k _ => Int.mul_comm _ _), su_mul]
    show N * dn w v N D n = _
    rw [h.den]
  have e2 : su (fun k => (if isS w v N D k = true then w k else 0) * D) n = su (fun k => if isS w v N D k = true then w k else 0) n * D := by
    rw [su_congr (g := fun k => D * (if isS w v N D k = true then w k else 0)) (fun k _ => Int.mul_comm _ _), su_mul, Int.mul_comm]
  rw [e1, e2] at hlt
  have := Int.lt_of_mul_lt_mul_right hlt (by omega)
  have := h.num
  omega
/-- The level is no less than nought. -/
theorem Lv.num0 {A : Int} {w v : Nat → Int} {n : Nat} {N D : Int} (h : Lv A w v n N D) (hA : 0 ≤ A) (hw : ∀ k, k < n → 0 ≤ w k) (hv : ∀ k, k < n → 1 ≤ v k) : 0 ≤ N := by
  by_cases c : 0 ≤ N
  · exact c
  · exfalso
    have hD := h.pos
    have hk : kp w v N D n = su (fun _ => 0) n := su_congr fun k hk => by
      have h1 := Int.mul_nonneg (hw k hk) (show 0 ≤ D by omega)
      have h2 := Int.mul_lt_mul_of_pos_left (show N < 0 by omega) (show 0 < v k by have := hv k hk; omega)
      rw [Int.mul_zero] at h2
      rw [show isS w v N D k = true from decide_eq_true (by omega), if_pos rfl]
    have hz : su (fun _ => 0) n = 0 := by
      have h1 := su_bound (f := fun _ => 0) (b := 0) (n := n) (fun _ _ => Int.le_refl _)
      have h2 := su_nonneg (f := fun _ => 0) (n := n) (fun _ _ => Int.le_refl _)
      rw [Int.zero_mul] at h1
      omega
    have := h.num
    omega

/-- What Level says: nobody is short, or the level. -/
structure Level (A : Int) (w v : Nat → Int) (n : Nat) (N D : Int) : Prop where
  way : (su w n ≤ A ∧ N = 0 ∧ D = 0) ∨ Lv A w v n N D
theorem Level.unique {A : Int} {w v : Nat → Int} {n : Nat} {N D N' D' : Int} (h : Level A w v n N D) (h' : Level A w v n N' D') (hv : ∀ k, k < n → 1 ≤ v k) : N = N' ∧ D = D' := by
  rcases h.way with ⟨h1, rfl, rfl⟩ | h1 <;> rcases h'.way with ⟨h2, rfl, rfl⟩ | h2
  · exact ⟨rfl, rfl⟩
  · have := h2.want; omega
  · have := h1.want; omega
  · exact h1.unique h2 hv
theorem Level.den0 {A : Int} {w v : Nat → Int} {n : Nat} {N D : Int} (h : Level A w v n N D) : 0 ≤ D := by
  rcases h.way with ⟨_, _, rfl⟩ | h
  · exact Int.le_refl _
  · exact Int.le_of_lt h.pos
/-- What one gets: over and under the line. -/
def gN (w v : Nat → Int) (N D : Int) (k : Nat) : Int := if isS w v N D k = true then v k * N else w k
def gD (w v : Nat → Int) (N D : Int) (k : Nat) : Int := if isS w v N D k = true then D else 1
/-- The ways of one: short, or not. -/
theorem g_way (w v : Nat → Int) (N D : Int) (k : Nat) : (v k * N < w k * D ∧ gN w v N D k = v k * N ∧ gD w v N D k = D) ∨ (w k * D ≤ v k * N ∧ gN w v N D k = w k ∧ gD w v N D k = 1) := by
  unfold gN gD
  by_cases c : v k * N < w k * D
  · rw [show isS w v N D k = true from decide_eq_true c]
    exact .inl ⟨c, rfl, rfl⟩
  · rw [show isS w v N D k = false from decide_eq_false c]
    exact .inr ⟨by omega, rfl, rfl⟩
/-- Nobody gets more than it wants. -/
theorem g_le {A : Int} {w v : Nat → Int} {n : Nat} {N D : Int} (_ : Level A w v n N D) (k : Nat) : gN w v N D k ≤ w k * gD w v N D k := by
  rcases g_way w v N D k with ⟨h1, h2, h3⟩ | ⟨h1, h2, h3⟩
  · rw [h2, h3]; omega
  · rw [h2, h3]; omega
theorem g_short {A : Int} {w v : Nat → Int} {n : Nat} {N D : Int} (h : Level A w v n N D) {k : Nat} (hs : v k * N < w k * D) : Lv A w v n N D := by
  rcases h.way with ⟨_, rfl, rfl⟩ | h
  · rw [Int.mul_zero, Int.mul_zero] at hs; omega
  · exact h
theorem gD_pos {A : Int} {w v : Nat → Int} {n : Nat} {N D : Int} (h : Level A w v n N D) (k : Nat) : 1 ≤ gD w v N D k := by
  rcases g_way w v N D k with ⟨h1, h2, h3⟩ | ⟨h1, h2, h3⟩
  · rw [h3]; have := (g_short h h1).pos; omega
  · rw [h3]; omega
theorem gN_nonneg {A : Int} {w v : Nat → Int} {n : Nat} {N D : Int} (h : Level A w v n N D) (hA : 0 ≤ A) (hw : ∀ k, k < n → 0 ≤ w k) (hv : ∀ k, k < n → 1 ≤ v k) {k : Nat} (hk : k < n) : 0 ≤ gN w v N D k := by
  rcases g_way w v N D k with ⟨h1, h2, h3⟩ | ⟨h1, h2, h3⟩
  · rw [h2]; exact Int.mul_nonneg (by have := hv k hk; omega) ((g_short h h1).num0 hA hw hv)
  · rw [h2]; exact hw k hk
/-- Everything is shared out, or all have what they want. -/
theorem g_sum {A : Int} {w v : Nat → Int} {n : Nat} {N D : Int} (h : Level A w v n N D) : su (fun k => gN w v N D k * (max D 1 / gD w v N D k)) n = min A (su w n) * max D 1 ∧ ∀ k, max D 1 % gD w v N D k = 0 := by
  rcases h.way with ⟨h1, rfl, rfl⟩ | h1
  · have hg : ∀ k, gN w v 0 0 k = w k ∧ gD w v 0 0 k = 1 := fun k => by
      rcases g_way w v 0 0 k with ⟨h1, _⟩ | ⟨_, h2, h3⟩
      · rw [Int.mul_zero, Int.mul_zero] at h1; omega
      · exact ⟨h2, h3⟩
    refine ⟨?_, fun k => by rw [(hg k).2]; exact Int.emod_one _⟩
    rw [show min A (su w n) = su w n by omega, show max (0 : Int) 1 = 1 by omega, Int.mul_one]
    refine su_congr fun k _ => ?_
    rw [(hg k).1, (hg k).2]
    simp
  · have hD := h1.pos
    have hw := h1.want
    rw [show min A (su w n) = A by omega, show max D 1 = D by omega, ← h1.fl]
    refine ⟨?_, fun k => ?_⟩
    · unfold Go.Proofs.Ytlpchakoikmbnaa.fl
      refine su_congr fun k _ => ?_
      rcases g_way w v N D k with ⟨a1, a2, a3⟩ | ⟨a1, a2, a3⟩
      · rw [a2, a3, Int.ediv_self (by omega), Int.mul_one]; omega
      · rw [a2, a3, Int.ediv_one]; omega
    · rcases g_way w v N D k with ⟨a1, a2, a3⟩ | ⟨a1, a2, a3⟩
      · rw [a3, Int.emod_self]
      · rw [a3, Int.emod_one]
/-- By its weight, nobody has more than one who is short. -/
theorem g_fair {A : Int} {w v : Nat → Int} {n : Nat} {N D : Int} (h : Level A w v n N D) (hv : ∀ k, k < n → 1 ≤ v k) {k i : Nat} (hk : k < n) (hs : v k * N < w k * D) : gN w v N D i * v k * gD w v N D k ≤ gN w v N D k * v i * gD w v N D i := by
  have hl := g_short h hs
  have hD := hl.pos
  rcases g_way w v N D k with ⟨a1, a2, a3⟩ | ⟨a1, _⟩
  · rw [a2, a3]
    rcases g_way w v N D i with ⟨b1, b2, b3⟩ | ⟨b1, b2, b3⟩
    · rw [b2, b3, show v i * N * v k = v k * N * v i by rw [Int.mul_assoc, Int.mul_comm (v i), Int.mul_assoc, Int.mul_right_comm, Int.mul_comm N]]
      exact Int.le_refl _
    · rw [b2, b3, Int.mul_one]
      have h2 := Int.mul_le_mul_of_nonneg_right b1 (show 0 ≤ v k by have := hv k hk; omega)
      rw [show w i * v k * D = w i * D * v k by rw [Int.mul_right_comm], show v k * N * v i = v i * N * v k by rw [Int.mul_comm (v k * N), ← Int.mul_assoc, Int.mul_right_comm]]
      exact h2
  · omega
/-- The other way to share it out: of somebody who has more, somebody else has less. -/
theorem g_other {A : Int} {w v y : Nat → Int} {n : Nat} {N D : Int} (h : Level A w v n N D) (hv : ∀ k, k < n → 1 ≤ v k) (hy : ∀ k, k < n → y k ≤ w k) (hs : su y n ≤ A) {k : Nat} (hk : k < n) (hm : gN w v N D k < y k * gD w v N D k) :
    ∃ i, i < n ∧ y i * gD w v N D i < gN w v N D i ∧ gN w v N D i * v k * gD w v N D k ≤ gN w v N D k * v i * gD w v N D i := by
  have hsk : v k * N < w k * D := by
    rcases g_way w v N D k with ⟨a1, _⟩ | ⟨a1, a2, a3⟩
    · exact a1
    · rw [a2, a3, Int.mul_one] at hm
      have := hy k hk
      omega
  have hl := g_short h hsk
  have hD := hl.pos
  by_cases c : ∃ i, i < n ∧ y i * gD w v N D i < gN w v N D i
  · obtain ⟨i, hi, hlt⟩ := c
    exact ⟨i, hi, hlt, g_fair h hv hk hsk⟩
  · exfalso
    have hno : ∀ i, i < n → gN w v N D i ≤ y i * gD w v N D i := fun i hi => by
      by_cases c2 : gN w v N D i ≤ y i * gD w v N D i
      · exact c2
      · exact absurd ⟨i, hi, by omega⟩ c
    have hlt : Go.Proofs.Ytlpchakoikmbnaa.fl w v N D n < su (fun i => D * y i) n := by
      unfold Go.Proofs.Ytlpchakoikmbnaa.fl
      refine su_lt (fun i hi => ?_) ⟨k, hk, ?_⟩
      · rcases g_way w v N D i with ⟨a1, a2, a3⟩ | ⟨a1, a2, a3⟩
        · have := hno i hi
          rw [a2, a3, Int.mul_comm _ D] at this
          omega
        · have := hno i hi
          rw [a2, a3, Int.mul_one] at this
          have := Int.mul_le_mul_of_nonneg_left this (show 0 ≤ D by omega)
          rw [Int.mul_comm D (w i)] at this
          omega
      · rcases g_way w v N D k with ⟨a1, a2, a3⟩ | ⟨a1, _⟩
        · rw [a2, a3, Int.mul_comm _ D] at hm
          omega
        · omega
    rw [hl.fl, su_mul, Int.mul_comm A] at hlt
    have := Int.mul_le_mul_of_nonneg_left hs (show 0 ≤ D by omega)
    omega
/-- More for all, or less wanted by another: no less for one whose want is the same. -/
theorem g_more {A A' : Int} {w w' v : Nat → Int} {n : Nat} {N D N' D' : Int} (h : Level A w v n N D) (h' : Level A' w' v n N' D') (hA : A ≤ A') (hw : ∀ k, k < n → w' k ≤ w k) (hv : ∀ k, k < n → 1 ≤ v k) {k : Nat} (_ : k < n) (he : w' k = w k) : gN w v N D k * gD w' v N' D' k ≤ gN w' v N' D' k * gD w v N D k := by
  rcases g_way w' v N' D' k with ⟨b1, b2, b3⟩ | ⟨b1, b2, b3⟩
  · have hl' := g_short h' b1
    have hD' := hl'.pos
    rw [b2, b3]
    have hl : Lv A w v n N D := by
      rcases h.way with ⟨z, _, _⟩ | z
      · have h1 := hl'.want
        have h2 := su_le hw
        omega
      · exact z
    have hD := hl.pos
    have hm := hl.mono hl' hA hw hv
    rcases g_way w v N D k with ⟨a1, a2, a3⟩ | ⟨a1, a2, a3⟩
    · rw [a2, a3, Int.mul_assoc, Int.mul_assoc]
      exact Int.mul_le_mul_of_nonneg_left hm (by have := hv k ‹_›; omega)
    · exfalso
      have h1 := Int.mul_le_mul_of_nonneg_right a1 (show 0 ≤ D' by omega)
      have h2 := Int.mul_lt_mul_of_pos_right b1 hD
      have h3 := Int.mul_le_mul_of_nonneg_left hm (show 0 ≤ v k by have := hv k ‹_›; omega)
      rw [he, show w k * D' * D = w k * D * D' by rw [Int.mul_right_comm]] at h2
      rw [← Int.mul_assoc, ← Int.mul_assoc] at h3
      omega
  · rw [b2, b3, Int.mul_one, he]
    exact g_le h k
/-- In another order it is the same. -/
theorem level_rev {A : Int} {w v : Nat → Int} {n : Nat} {N D : Int} (h : Level A w v n N D) : Level A (fun k => w (n - 1 - k)) (fun k => v (n - 1 - k)) n N D := by
  refine ⟨?_⟩
  rcases h.way with ⟨h1, h2, h3⟩ | h1
  · exact .inl ⟨by rw [su_rev w n]; exact h1, h2, h3⟩
  · exact .inr ⟨h1.pos, (su_rev (fun k => if isS w v N D k = true then v k else 0) n).trans h1.den, (congrArg (A - ·) (su_rev (fun k => if isS w v N D k = true then 0 else w k) n)).trans h1.num⟩
end Go.Proofs.Ytlpchakoikmbnaa
