/- ScfqLight, plain: two alike take turns. -/
import Derived.Test.YtobkepipmmkboaaSc0
namespace Go.Proofs.Ytobkepipmmkboaa

theorem rep_snoc {α : Type} (n : Nat) (a : α) : List.replicate (n + 1) a = List.replicate n a ++ [a] := List.replicate_succ'
/-- What is sent after so many turns. -/
def turns (b : Int) (c : Nat) : List (Nat × Int) := (List.range (2 * c)).map fun k => (k % 2, b)
theorem turns_succ (b : Int) (c : Nat) : turns b (c + 1) = turns b c ++ [(0, b)] ++ [(1, b)] := by
  unfold turns
  rw [show 2 * (c + 1) = 2 * c + 1 + 1 by omega, List.range_succ, List.range_succ, List.map_append, List.map_append, List.map_singleton, List.map_singleton, show 2 * c % 2 = 0 by omega, show (2 * c + 1) % 2 = 1 by omega]
theorem turns_length (b : Int) (c : Nat) : (turns b c).length = 2 * c := by simp [turns]
theorem turns_at (b : Int) (c k : Nat) (h : k < 2 * c) : (turns b c)[k]? = some (k % 2, b) := by
  unfold turns
  rw [List.getElem?_map, List.getElem?_range h]
  rfl
def lightOps (b : Int) (m j c : Nat) : List (Int × Int × Int) := List.replicate m (1, 0, b) ++ List.replicate j (1, 1, b) ++ List.replicate c (2, 0, 0)
theorem lightOps_length (b : Int) (m j c : Nat) : (lightOps b m j c).length = m + j + c := by simp [lightOps]; omega
def u33 (k : Nat) : Int := uW [3, 3] k
theorem u33_0 : u33 0 = 9240 := by decide
theorem u33_1 : u33 1 = 9240 := by decide
theorem step_come {u : Nat → Int} {t : ScAt} {f : Nat} {b : Int} (hf : f < 2) (hb : 1 ≤ b ∧ b ≤ 1500) : t.step u 2 (1, (f : Int), b) = ⟨t.errs ++ [0], t.sent, t.st.come u f b⟩ := by
  have he : scErr 2 t.st (1, (f : Int), b) = 0 := by
    unfold scErr
    rw [if_pos rfl, if_neg (by dsimp only; omega), if_neg (by dsimp only; omega)]
  unfold ScAt.step
  rw [if_pos he, if_pos rfl]
  rfl
theorem step_send {u : Nat → Int} {t : ScAt} {f : Nat} {b g x y : Int} (h : bestF t.st.q 2 = some (f, b, g)) : t.step u 2 (2, x, y) = ⟨t.errs ++ [0], t.sent ++ [(f, b)], t.st.send f g⟩ := by
  have he : scErr 2 t.st (2, x, y) = 0 := by
    unfold scErr
    rw [if_neg (by show ¬ (2 : Int) = 1; decide), if_pos rfl, h, if_neg (by simp)]
  unfold ScAt.step
  rw [if_pos he, if_neg (by show ¬ (2 : Int) = 1; decide), h]
theorem light_come0 {b : Int} (hb : 1 ≤ b ∧ b ≤ 1500) : ∀ i, ∃ es st, scRun u33 2 (lightOps b i 0 0) = ⟨es, [], st⟩ ∧ Coming st b (9240 * b) i 0
  | 0 => ⟨[], Sc.zero, rfl, Coming.start _ _⟩
  | i + 1 => by
    obtain ⟨es, st, h1, h2⟩ := light_come0 hb i
    have e : lightOps b (i + 1) 0 0 = lightOps b i 0 0 ++ [(1, ((0 : Nat) : Int), b)] := by
      unfold lightOps
      rw [rep_snoc]
      simp
    refine ⟨es ++ [0], st.come u33 0 b, ?_, h2.come0 (by omega) (by rw [u33_0])⟩
    rw [e, scRun_snoc, h1, step_come (by decide) hb]
theorem light_come1 {b : Int} (hb : 1 ≤ b ∧ b ≤ 1500) (m : Nat) : ∀ j, ∃ es st, scRun u33 2 (lightOps b m j 0) = ⟨es, [], st⟩ ∧ Coming st b (9240 * b) m j
  | 0 => light_come0 hb m
  | j + 1 => by
    obtain ⟨es, st, h1, h2⟩ := light_come1 hb m j
    have e : lightOps b m (j + 1) 0 = lightOps b m j 0 ++ [(1, ((1 : Nat) : Int), b)] := by
      unfold lightOps
      rw [rep_snoc]
      simp
    refine ⟨es ++ [0], st.come u33 1 b, ?_, h2.come1 (by omega) (by rw [u33_1])⟩
    rw [e, scRun_snoc, h1, step_come (by decide) hb]
theorem light_send {b : Int} (hb : 1 ≤ b ∧ b ≤ 1500) (m : Nat) : ∀ c, c ≤ m → ∃ es st, scRun u33 2 (lightOps b m m (2 * c)) = ⟨es, turns b c, st⟩ ∧ Turn st b (9240 * b) m c c
  | 0, _ => by
    obtain ⟨es, st, h1, h2⟩ := light_come1 hb m m
    exact ⟨es, st, h1, h2.turn⟩
  | c + 1, hc => by
    obtain ⟨es, st, h1, h2⟩ := light_send hb m c (by omega)
    have e : lightOps b m m (2 * (c + 1)) = lightOps b m m (2 * c) ++ [(2, 0, 0)] ++ [(2, 0, 0)] := by
      unfold lightOps
      rw [show 2 * (c + 1) = 2 * c + 1 + 1 by omega, rep_snoc, rep_snoc]
      simp
    have k1 := h2.first (show c < m by omega)
    have h3 := h2.send0 (show c < m by omega) (((c : Int) + 1) * (9240 * b))
    have k2 := h3.second (by omega) (show c < m by omega)
    have h4 := h3.send1 (show c < m by omega) (((c : Int) + 1) * (9240 * b))
    refine ⟨es ++ [0] ++ [0], _, ?_, h4⟩
    have s1 := step_send (u := u33) (t := ⟨es, turns b c, st⟩) (x := 0) (y := 0) k1
    have s2 := step_send (u := u33) (t := ⟨es ++ [0], turns b c ++ [(0, b)], st.send 0 (((c : Int) + 1) * (9240 * b))⟩) (x := 0) (y := 0) k2
    rw [e, scRun_snoc, scRun_snoc, h1, s1, turns_succ]
    exact s2
/-- The whole. -/
theorem light_all {b : Int} (hb : 1 ≤ b ∧ b ≤ 1500) (m : Nat) : (scRun (uW [3, 3]) 2 (lightOps b m m (2 * m))).sent = turns b m := by
  obtain ⟨es, st, h1, _⟩ := light_send hb m m (Nat.le_refl m)
  have h1 : scRun (uW [3, 3]) 2 (lightOps b m m (2 * m)) = ⟨es, turns b m, st⟩ := h1
  rw [h1]
end Go.Proofs.Ytobkepipmmkboaa
