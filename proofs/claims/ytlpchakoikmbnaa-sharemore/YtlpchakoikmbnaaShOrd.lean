/- Sharing by weights, plain: who is not short is taken out one by one, in the order of their levels. -/
import Derived.Test.YtlpchakoikmbnaaSh0
namespace Go.Proofs.Ytlpchakoikmbnaa

theorem su_one {f g : Nat → Int} {k : Nat} (h : ∀ j, j ≠ k → f j = g j) : ∀ {n : Nat}, k < n → su f n = su g n + (f k - g k)
  | 0, hk => by omega
  | n + 1, hk => by
    rw [su_succ, su_succ]
    by_cases c : k = n
    · subst c
      rw [su_congr (g := g) fun j hj => h j (by omega)]
      omega
    · rw [su_one h (n := n) (by omega), h n (by omega)]
      omega
/-- Some who are not short are taken out. -/
theorem Left.less {A : Int} {w v : Nat → Int} {n : Nat} {s s' : Nat → Bool} (h : Left A w v n s) (hv : ∀ k, k < n → 1 ≤ v k) (hD : 0 < dS v s n) (hsub : ∀ k, s' k = true → s k = true) (hno : ∀ k, k < n → s k = true → s' k = false → w k * dS v s n ≤ v k * (A - kS w s n)) : Left A w v n s' := by
  obtain ⟨D, eD⟩ : ∃ D, dS v s n = D := ⟨_, rfl⟩
  obtain ⟨N, eN⟩ : ∃ N, A - kS w s n = N := ⟨_, rfl⟩
  have ho := h.out hD
  rw [eD, eN] at ho
  rw [eD] at hD
  rw [eD, eN] at hno
  have hall : ∀ k, k < n → s' k = false → w k * D ≤ v k * N := fun k hk hs => by
    cases h1 : s k with
    | false => exact ho k hk h1
    | true => exact hno k hk h1 hs
  have key : N * dS v s' n ≤ (A - kS w s' n) * D := by
    have e1 : dS v s' n + su (fun k => if s k = true ∧ s' k = false then v k else 0) n = D := by
      refine Eq.trans ?_ eD
      unfold dS
      rw [← su_add]
      refine su_congr fun k _ => ?_
      have := hsub k
      cases h1 : s k <;> cases h2 : s' k <;> simp_all
    have e2 : kS w s n + su (fun k => if s k = true ∧ s' k = false then w k else 0) n = kS w s' n := by
      unfold kS
      rw [← su_add]
      refine su_congr fun k _ => ?_
      have := hsub k
      cases h1 : s k <;> cases h2 : s' k <;> simp_all
    have e3 : D * su (fun k => if s k = true ∧ s' k = false then w k else 0) n ≤ N * su (fun k => if s k = true ∧ s' k = false then v k else 0) n := by
      rw [← su_mul, ← su_mul]
      refine su_le fun k hk => ?_
      by_cases c : s k = true ∧ s' k = false
      · rw [if_pos c, if_pos c]
        have := hall k hk c.2
        rw [Int.mul_comm D, Int.mul_comm N]
        omega
      · rw [if_neg c, if_neg c, Int.mul_zero, Int.mul_zero]
        exact Int.le_refl _
    generalize su (fun k => if s k = true ∧ s' k = false then w k else 0) n = Rw at *
    generalize su (fun k => if s k = true ∧ s' k = false then v k else 0) n = Rv at *
    rw [show dS v s' n = D - Rv by omega, show A - kS w s' n = N - Rw by omega, Int.mul_sub, Int.sub_mul, Int.mul_comm Rw D]
    omega
  refine ⟨fun h0 => ?_, fun hp k hk hs => ?_⟩
  · have ha := kS_all (w := w) (fun k hk => dS_zero hv h0 hk)
    rw [h0, Int.mul_zero, ha] at key
    have : 0 ≤ A - su w n := by
      by_cases c : 0 ≤ A - su w n
      · exact c
      · have := Int.mul_lt_mul_of_pos_right (show A - su w n < 0 by omega) hD
        rw [Int.zero_mul] at this
        omega
    omega
  · have h1 := Int.mul_le_mul_of_nonneg_right (hall k hk hs) (show 0 ≤ dS v s' n by omega)
    have h2 := Int.mul_le_mul_of_nonneg_left key (show 0 ≤ v k by have := hv k hk; omega)
    rw [← Int.mul_assoc, ← Int.mul_assoc] at h2
    have h3 : w k * dS v s' n * D ≤ v k * (A - kS w s' n) * D := by
      rw [show w k * dS v s' n * D = w k * D * dS v s' n by rw [Int.mul_right_comm]]
      omega
    exact Int.le_of_mul_le_mul_right h3 hD

/-- Who is left behind the first i. -/
def rest (L : List Nat) (i k : Nat) : Bool := decide (k ∈ L.drop i)
/-- Between two rounds. -/
structure Mid (A : Int) (w v : Nat → Int) (n : Nat) (L : List Nat) (i : Nat) (N D : Int) : Prop where
  left : Left A w v n (rest L i)
  num : N = A - kS w (rest L i) n
  den : D = dS v (rest L i) n
section
variable {A : Int} {w v : Nat → Int} {n : Nat} {L : List Nat}
theorem rest_zero (hp : L.Perm (List.range n)) {k : Nat} (hk : k < n) : rest L 0 k = true := by
  unfold rest
  rw [List.drop_zero]
  exact decide_eq_true (hp.symm.subset (List.mem_range.2 hk))
theorem rest_end {i k : Nat} (hi : L.length ≤ i) : rest L i k = false := by
  unfold rest
  rw [List.drop_eq_nil_of_le hi]
  rfl
theorem Mid.start (hA : 0 ≤ A) (hv : ∀ k, k < n → 1 ≤ v k) (hp : L.Perm (List.range n)) : Mid A w v n L 0 A (su v n) := by
  refine ⟨Left.start hA hv fun k hk => rest_zero hp hk, ?_, ?_⟩
  · have : kS w (rest L 0) n = su (fun _ => 0) n := su_congr fun k hk => by rw [rest_zero hp hk, if_pos rfl]
    have hz : su (fun _ => 0) n = 0 := by
      have h1 := su_bound (f := fun _ => 0) (b := 0) (n := n) (fun _ _ => Int.le_refl _)
      have h2 := su_nonneg (f := fun _ => 0) (n := n) (fun _ _ => Int.le_refl _)
      rw [Int.zero_mul] at h1
      omega
    omega
  · exact su_congr fun k hk => by rw [rest_zero hp hk, if_pos rfl]
theorem rest_next {i k : Nat} (hn : L.Nodup) (hk : L[i]? = some k) : (∀ j, j ≠ k → rest L (i + 1) j = rest L i j) ∧ rest L i k = true ∧ rest L (i + 1) k = false := by
  obtain ⟨hi, e⟩ := List.getElem?_eq_some_iff.1 hk
  have hd : L.drop i = k :: L.drop (i + 1) := by rw [List.drop_eq_getElem_cons hi, e]
  have hnd : (k :: L.drop (i + 1)).Nodup := by rw [← hd]; exact hn.sublist (List.drop_sublist _ _)
  refine ⟨fun j hj => ?_, ?_, ?_⟩
  · unfold rest
    rw [hd]
    simp [hj]
  · unfold rest
    rw [hd]
    simp
  · unfold rest
    exact decide_eq_false (List.nodup_cons.1 hnd).1
theorem Mid.lt {i k : Nat} (hp : L.Perm (List.range n)) (hk : L[i]? = some k) : k < n := List.mem_range.1 (hp.subset (List.mem_of_getElem? hk))
theorem Mid.nodup (hp : L.Perm (List.range n)) : L.Nodup := hp.nodup_iff.2 List.nodup_range
variable {i k : Nat} {N D : Int}
theorem Mid.den_pos (h : Mid A w v n L i N D) (hv : ∀ k, k < n → 1 ≤ v k) (hp : L.Perm (List.range n)) (hk : L[i]? = some k) : 0 < D := by
  have hlt := Mid.lt hp hk
  obtain ⟨r1, r2, r3⟩ := rest_next (Mid.nodup hp) hk
  have hd := su_one (f := fun j => if rest L i j = true then v j else 0) (g := fun j => if rest L (i + 1) j = true then v j else 0) (k := k) (fun j hj => by rw [r1 j hj]) hlt
  have h0 : 0 ≤ dS v (rest L (i + 1)) n := dS_nonneg hv
  have := hv k hlt
  rw [h.den]
  unfold dS at *
  rw [hd]
  simp only [r2, r3]
  simp
  omega
theorem Mid.next (h : Mid A w v n L i N D) (hv : ∀ k, k < n → 1 ≤ v k) (hp : L.Perm (List.range n)) (hk : L[i]? = some k) (hs : ¬ v k * N < w k * D) : Mid A w v n L (i + 1) (N - w k) (D - v k) := by
  have hlt := Mid.lt hp hk
  have hpos := h.den_pos hv hp hk
  obtain ⟨r1, r2, r3⟩ := rest_next (Mid.nodup hp) hk
  have hd := su_one (f := fun j => if rest L i j = true then v j else 0) (g := fun j => if rest L (i + 1) j = true then v j else 0) (k := k) (fun j hj => by rw [r1 j hj]) hlt
  have hkk := su_one (f := fun j => if rest L i j = true then 0 else w j) (g := fun j => if rest L (i + 1) j = true then 0 else w j) (k := k) (fun j hj => by rw [r1 j hj]) hlt
  simp only [r2, r3] at hd hkk
  simp at hd hkk
  have n1 := h.num
  have n2 := h.den
  refine ⟨h.left.less hv (by rw [← n2]; exact hpos) (fun j hj => ?_) (fun j _ h1 h2 => ?_), ?_, ?_⟩
  · by_cases c : j = k
    · subst c; exact r2
    · rw [r1 j c] at hj; exact hj
  · by_cases c : j = k
    · subst c
      rw [← n2, ← n1]
      omega
    · rw [r1 j c, h1] at h2
      cases h2
  · unfold kS at *
    omega
  · unfold dS at *
    omega
/-- The first that is short: all behind it are. -/
theorem Mid.short (h : Mid A w v n L i N D) (hv : ∀ k, k < n → 1 ≤ v k) (hp : L.Perm (List.range n)) (hasc : ∀ a b i j : Nat, a < b → L[a]? = some i → L[b]? = some j → w i * v j ≤ w j * v i) (hk : L[i]? = some k) (hs : v k * N < w k * D) : Level A w v n N D := by
  have hlt := Mid.lt hp hk
  have hpos := h.den_pos hv hp hk
  have hl := (h.left.some (by rw [← h.den]; exact hpos) (fun j hj hr => ?_)).1
  · rw [← h.num, ← h.den] at hl
    exact hl
  · rw [← h.num, ← h.den]
    unfold rest at hr
    obtain ⟨b, hb⟩ := List.mem_iff_getElem?.1 (of_decide_eq_true hr)
    rw [List.getElem?_drop] at hb
    refine decide_eq_true ?_
    by_cases c : b = 0
    · subst c
      rw [Nat.add_zero, hk] at hb
      injection hb with hb
      subst hb
      exact hs
    · have ha := hasc i (i + b) k j (by omega) hk hb
      have h1 := Int.mul_le_mul_of_nonneg_right ha (show 0 ≤ D by omega)
      have h2 := Int.mul_lt_mul_of_pos_right hs (show 0 < v j by have := hv j hj; omega)
      have h3 : v j * N * v k < w j * D * v k := by
        rw [show v j * N * v k = v k * N * v j by rw [Int.mul_comm (v j), Int.mul_comm (v k), Int.mul_right_comm], show w j * D * v k = w j * v k * D by rw [Int.mul_right_comm]]
        rw [show w k * D * v j = w k * v j * D by rw [Int.mul_right_comm]] at h2
        omega
      exact Int.lt_of_mul_lt_mul_right h3 (by have := hv k hlt; omega)
/-- Nobody is short. -/
theorem Mid.all (h : Mid A w v n L i N D) (hv : ∀ k, k < n → 1 ≤ v k) (hi : L.length ≤ i) : Level A w v n 0 0 := by
  refine (h.left.none hv ?_).1
  have h0 : 0 ≤ dS v (rest L i) n := dS_nonneg hv
  have : dS v (rest L i) n ≤ 0 * (n : Int) := su_bound fun k _ => by rw [rest_end hi, if_neg (by decide)]; exact Int.le_refl _
  rw [Int.zero_mul] at this
  omega
theorem Mid.bounds (h : Mid A w v n L i N D) (hA : 0 ≤ A ∧ A ≤ 1048576) (hw : ∀ k, 0 ≤ w k ∧ w k ≤ 1048576) (hv : ∀ k, 0 ≤ v k ∧ v k ≤ 1000) (hn : n ≤ 16) : (-16777216 ≤ N ∧ N ≤ 1048576) ∧ 0 ≤ D ∧ D ≤ 16000 := by
  have k0 : 0 ≤ kS w (rest L i) n := su_nonneg fun k _ => by have := hw k; split <;> omega
  have k1 : kS w (rest L i) n ≤ 1048576 * (n : Int) := su_bound fun k _ => by have := hw k; split <;> omega
  have d0 : 0 ≤ dS v (rest L i) n := su_nonneg fun k _ => by have := hv k; split <;> omega
  have d1 : dS v (rest L i) n ≤ 1000 * (n : Int) := su_bound fun k _ => by have := hv k; split <;> omega
  have := h.num
  have := h.den
  omega
end
end Go.Proofs.Ytlpchakoikmbnaa
