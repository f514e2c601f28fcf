/- Package drr, plain: what the keep laws need of the rounds. -/
import Derived.Test.YtgphbplmkegdeaaDr0b
namespace Go.Proofs.Ytgphbplmkegdeaa

theorem outS_len {xs : List Int} {fs : List (List Int)} {ms : List Int} (hR : Right xs fs) (r : Nat) : (outS xs fs ms r).length ≤ 6400 := by
  have := aS_len (ms := ms) hR r (k := 0) (Nat.zero_le _)
  rwa [aS_start] at this
theorem flow_outS {xs : List Int} {fs : List (List Int)} {ms : List Int} {r j : Nat} (hj : j < xs.length) : flowOf j (outS xs fs ms r) = (fD xs fs ms r j).1 := by
  rw [← aS_start, flow_aS hj, aD_start]
theorem mem_flow {l : List (Nat × Int)} {p : Nat × Int} (h : p ∈ l) : p.2 ∈ flowOf p.1 l := List.mem_filterMap.2 ⟨p, h, if_pos rfl⟩
theorem outS_lt {xs : List Int} {fs : List (List Int)} {ms : List Int} {r : Nat} : ∀ p ∈ outS xs fs ms r, p.1 < xs.length := fun p hp => aS_lt (k := 0) (Nat.zero_le _) p (by rw [aS_start]; exact hp)
theorem outS_bytes {xs : List Int} {fs : List (List Int)} {ms : List Int} (hR : Right xs fs) {r : Nat} : ∀ p ∈ outS xs fs ms r, 0 ≤ p.2 ∧ p.2 ≤ 1500 := fun p hp => by
  have h1 := mem_flow hp
  rw [flow_outS (outS_lt p hp)] at h1
  have := (hR.flow p.1).2 p.2 (by
    rw [← fD_split xs fs ms r p.1]
    exact List.mem_append_left _ h1)
  omega
/-- From no credit: what a flow's rounds keep. -/
theorem fD_keeps {xs : List Int} {fs : List (List Int)} (hR : Right xs fs) (n r j : Nat) : Dr (fn xs j) (fl fs j) r (fD xs fs (List.replicate n 0) r j) := by
  unfold fD
  rw [fn_zero]
  exact drr_keeps (hR.turn0 j).1 (hR.sizes j) r
theorem right_one {xs : List Int} {fs : List (List Int)} (hR : Right xs fs) {k : Nat} (hk : k < xs.length) : Right [fn xs k] [fl fs k] :=
  ⟨rfl, by simp, fun x hx => by rw [List.mem_singleton] at hx; subst hx; exact hR.turn hk, fun f hf => by rw [List.mem_singleton] at hf; subst hf; exact hR.flow k⟩
theorem fD_one (xs : List Int) (fs : List (List Int)) (n m r k : Nat) : fD [fn xs k] [fl fs k] (List.replicate m 0) r 0 = fD xs fs (List.replicate n 0) r k := by
  unfold fD
  rw [fn_zero, fn_zero]
  rfl
theorem sum_one {xs : List Int} {fs : List (List Int)} {r k : Nat} (hk : k < xs.length) : tt (flowOf 0 (outS [fn xs k] [fl fs k] (List.replicate 1 0) r)) = tt (flowOf k (outS xs fs (List.replicate xs.length 0) r)) := by
  rw [flow_outS (by simp), flow_outS hk, fD_one xs fs xs.length 1 r k]

/-! ### rounds, and one more -/
theorem drSent_congr {n : Nat} {f g : Nat → List Int} (h : ∀ k, k < n → f k = g k) : drSent n f = drSent n g := by
  induction n with
  | zero => rfl
  | succ n ih => rw [drSent_succ, drSent_succ, ih fun k hk => h k (by omega), h n (by omega)]
section
variable {xs : List Int} {fs : List (List Int)} {ms : List Int}
theorem fD_more (r : Nat) {j : Nat} (hj : j < xs.length) : (fD xs (outL xs fs ms r) (outC xs fs ms r) 1 j).2 = (fD xs fs ms (r + 1) j).2 ∧ fS xs (outL xs fs ms r) (outC xs fs ms r) 0 j = fS xs fs ms r j := by
  have h0 : fD xs (outL xs fs ms r) (outC xs fs ms r) 0 j = ([], (fD xs fs ms r j).2) := by
    unfold fD
    rw [outC_fn _ _ _ _ hj, outL_fl _ _ _ _ hj]
    rfl
  rw [fD_succ, fD_succ]
  unfold fS
  rw [h0]
  exact ⟨rfl, rfl⟩
theorem outS_more (r : Nat) : outS xs fs ms r ++ outS xs (outL xs fs ms r) (outC xs fs ms r) 1 = outS xs fs ms (r + 1) := by
  show outS xs fs ms r ++ ([] ++ drSent xs.length (fS xs (outL xs fs ms r) (outC xs fs ms r) 0)) = outS xs fs ms r ++ drSent xs.length (fS xs fs ms r)
  rw [List.nil_append, drSent_congr fun k hk => (fD_more (fs := fs) (ms := ms) r hk).2]
theorem outL_more (r : Nat) : outL xs (outL xs fs ms r) (outC xs fs ms r) 1 = outL xs fs ms (r + 1) := List.map_congr_left fun j hj => by rw [(fD_more r (List.mem_range.1 hj)).1]
theorem outC_more (r : Nat) : outC xs (outL xs fs ms r) (outC xs fs ms r) 1 = outC xs fs ms (r + 1) := List.map_congr_left fun j hj => by rw [(fD_more r (List.mem_range.1 hj)).1]
theorem right_more (hR : Right xs fs) (r : Nat) : Right xs (outL xs fs ms r) := ⟨outL_length _ _ _ _, hR.few, hR.turns, fun f hf => by
  obtain ⟨j, _, rfl⟩ := List.mem_map.1 hf
  exact ⟨by have := fD_len (ms := ms) hR r j; omega, fD_sizes hR r j⟩⟩
theorem cred_more (hR : Right xs fs) (hC : Cred xs.length ms) (r : Nat) : Cred xs.length (outC xs fs ms r) := ⟨outC_length _ _ _ _, fun m hm => by
  obtain ⟨j, _, rfl⟩ := List.mem_map.1 hm
  exact fD_cred hR hC r j⟩
theorem outL_at (r : Nat) {j : Nat} (hj : j < xs.length) : (outL xs fs ms r)[j]? = some (fD xs fs ms r j).2.1 := by simp [outL, hj]
theorem outC_at (r : Nat) {j : Nat} (hj : j < xs.length) : (outC xs fs ms r)[j]? = some (fD xs fs ms r j).2.2 := by simp [outC, hj]
end
end Go.Proofs.Ytgphbplmkegdeaa
