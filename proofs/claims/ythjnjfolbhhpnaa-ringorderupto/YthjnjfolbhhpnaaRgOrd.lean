/- Drop-tail queues, plain: what came, what is kept, what was dropped. -/
import Derived.Test.YthjnjfolbhhpnaaRgPlay
namespace Go.Proofs.Ythjnjfolbhhpnaa

/-- The packets that came, by size. -/
def came (os : List (Int × Int)) : List Int := (os.filter fun o => decide (o.1 = 1) && !bad o.2).map (·.2)
theorem came_snoc {os : List (Int × Int)} {i : Nat} {k n : Int} (h : os[i]? = some (k, n)) : came (os.take (i + 1)) = came (os.take i) ++ if k = 1 ∧ bad n = false then [n] else [] := by
  rw [take_snocP h]
  unfold came
  rw [List.filter_append, List.map_append]
  congr 1
  by_cases c : k = 1 ∧ bad n = false
  · rw [if_pos c, List.filter_cons]
    simp [c.1, c.2]
  · rw [if_neg c, List.filter_cons, if_neg]
    · rfl
    · simp only [Bool.and_eq_true, decide_eq_true_iff, Bool.not_eq_true']
      exact c
structure Kept (s : Qu × List Int) (cl : List Int) (i : Nat) : Prop where
  sub : (s.2 ++ s.1.has).Sublist cl
  len : (cl.length : Int) = ((s.2 ++ s.1.has).length : Int) + s.1.dr
  dr : 0 ≤ s.1.dr ∧ s.1.dr ≤ (i : Int)
theorem kept_step {s : Qu × List Int} {cl : List Int} {i : Nat} (h : Kept s cl i) (hi : (i : Int) < 1099511627776) (k n : Int) : Kept (play1 s (k, n)) (cl ++ if k = 1 ∧ bad n = false then [n] else []) (i + 1) := by
  obtain ⟨q, outs⟩ := s
  obtain ⟨hs, hl, hd⟩ := h
  dsimp only at hs hl hd
  unfold play1 Qu.act
  dsimp only
  by_cases k1 : k = 1
  · subst k1
    rw [if_pos rfl]
    unfold Qu.put
    cases hb : bad n with
    | true =>
      simp only [if_true]
      rw [if_neg (by decide), if_neg (fun h => by cases h.2)]
      rw [List.append_nil]
      exact ⟨hs, hl, by dsimp only; omega⟩
    | false =>
      rw [if_neg (by decide)]
      by_cases hf : q.fits n = true
      · rw [if_pos hf]
        rw [if_neg (fun h => absurd h.2 (by decide)), if_pos ⟨rfl, rfl⟩]
        refine ⟨?_, ?_, ?_⟩
        · dsimp only
          rw [← List.append_assoc]
          exact hs.append (List.Sublist.refl _)
        · dsimp only
          rw [← List.append_assoc, List.length_append, List.length_append, List.length_singleton]
          simp only [Int.natCast_add]
          omega
        · dsimp only; omega
      · rw [if_neg hf]
        by_cases hdr : q.dr = 1099511627776
        · omega
        · rw [if_neg hdr, if_neg (fun h => absurd h.2 (by decide)), if_pos ⟨rfl, rfl⟩]
          refine ⟨?_, ?_, ?_⟩
          · dsimp only
            exact hs.trans (List.sublist_append_left _ _)
          · dsimp only
            rw [List.length_append, List.length_singleton]
            simp only [Int.natCast_add]
            omega
          · dsimp only; omega
  · rw [if_neg k1, if_neg (show ¬(k = 1 ∧ bad n = false) from fun h => k1 h.1), List.append_nil]
    by_cases k2 : k = 2
    · subst k2
      rw [if_pos rfl]
      unfold Qu.get
      split
      · rename_i hx
        rw [if_neg (fun h => absurd (show (3 : Int) = 0 from h.1) (by decide))]
        exact ⟨hs, hl, by dsimp only; omega⟩
      · rename_i x r hx
        rw [if_pos ⟨rfl, rfl⟩]
        rw [hx] at hs hl
        refine ⟨?_, ?_, by dsimp only; omega⟩
        · dsimp only
          rw [List.append_assoc]
          exact hs
        · dsimp only
          rw [List.append_assoc]
          exact hl
    · rw [if_neg k2, if_neg (fun h => absurd (show (5 : Int) = 0 from h.1) (by decide))]
      exact ⟨hs, hl, by dsimp only; omega⟩
theorem kept_at (most mb : Int) (os : List (Int × Int)) (hn : os.length ≤ 1048576) : ∀ i, i ≤ os.length → Kept (plays most mb (os.take i)) (came (os.take i)) i
  | 0, _ => ⟨List.Sublist.refl _, rfl, by constructor <;> exact Int.le_refl _⟩
  | i + 1, hi => by
    have ho : os[i]? = some (os[i].1, os[i].2) := List.getElem?_eq_getElem (by omega)
    rw [plays_snoc ho, came_snoc ho]
    exact kept_step (kept_at most mb os hn i (by omega)) (by omega) _ _

/-- The list without its first element, if that is x. -/
def strip (l : List Int) (x : Int) : List Int := match l with | [] => [] | y :: r => if y = x then r else y :: r
theorem strip_all : ∀ (cl l : List Int), l.Sublist cl → cl.foldl strip l = []
  | [], l, h => by
    cases h
    rfl
  | x :: cl, l, h => by
    rw [List.foldl_cons]
    apply strip_all cl
    cases l with
    | nil => exact List.nil_sublist _
    | cons y r =>
      unfold strip
      dsimp only
      split
      · rename_i e
        cases h with
        | cons _ h => exact (List.sublist_cons_self _ _).trans h
        | cons_cons _ h => exact h
      · rename_i e
        cases h with
        | cons _ h => exact h
        | cons_cons _ h => exact absurd rfl e
/-- How far one is in l behind the first packets that came. -/
theorem strip_drop (l : List Int) (k : Nat) (x : Int) (hk : k ≤ l.length) : strip (l.drop k) x = l.drop (if l[k]? = some x then k + 1 else k) ∧ (if l[k]? = some x then k + 1 else k) ≤ l.length := by
  rcases Nat.lt_or_ge k l.length with h | h
  · rw [List.drop_eq_getElem_cons h, List.getElem?_eq_getElem h]
    unfold strip
    dsimp only
    by_cases e : l[k] = x
    · rw [if_pos e, if_pos (by rw [e])]
      exact ⟨rfl, h⟩
    · rw [if_neg e, if_neg (by simpa using e)]
      exact ⟨(List.drop_eq_getElem_cons h).symm, hk⟩
  · rw [List.drop_eq_nil_of_le h, List.getElem?_eq_none h, if_neg (by simp)]
    exact ⟨(List.drop_eq_nil_of_le h).symm, hk⟩
end Go.Proofs.Ythjnjfolbhhpnaa
