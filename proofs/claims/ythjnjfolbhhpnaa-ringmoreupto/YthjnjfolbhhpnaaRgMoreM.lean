/- Drop-tail queues, plain: packets alone, room for one packet more. -/
import Derived.Test.YthjnjfolbhhpnaaRgPlay
namespace Go.Proofs.Ythjnjfolbhhpnaa

/-- The packets that are packets. -/
def goods (xs : List Int) : List Int := xs.filter fun n => !bad n
theorem goods_snoc {xs : List Int} {i : Nat} {n : Int} (h : xs[i]? = some n) : goods (xs.take (i + 1)) = goods (xs.take i) ++ if bad n = false then [n] else [] := by
  rw [List.take_add_one, h]
  unfold goods
  rw [List.filter_append]
  congr 1
  cases hb : bad n <;> simp [hb]
theorem goods_good (xs : List Int) : (goods xs).any bad = false := by
  rw [List.any_eq_false]
  intro x hx
  have := (List.mem_filter.1 hx).2
  simpa using this
theorem any_take {xs : List Int} (h : xs.any bad = false) (k : Nat) : (xs.take k).any bad = false := by
  rw [List.any_eq_false] at h ⊢
  exact fun x hx => h x (List.mem_of_mem_take hx)
def ins (xs : List Int) : List (Int × Int) := xs.map fun n => (1, n)
structure Only (m : Nat) (s : Qu × List Int) (cl : List Int) (i : Nat) : Prop where
  outs : s.2 = []
  has : s.1.has = cl.take m
  most : s.1.most = (m : Int)
  mb : s.1.mb = 1073741824
  dr : s.1.dr = (cl.length : Int) - ((cl.take m).length : Int)
  len : cl.length ≤ i
theorem only_step {m : Nat} (hm : m ≤ 400) {s : Qu × List Int} {cl : List Int} {i : Nat} (h : Only m s cl i) (hg : cl.any bad = false) (hi : i < 1099511627776) (n : Int) : Only m (play1 s (1, n)) (cl ++ if bad n = false then [n] else []) (i + 1) := by
  obtain ⟨q, outs⟩ := s
  obtain ⟨h1, h2, h3, h4, h5, h6⟩ := h
  dsimp only at h1 h2 h3 h4 h5
  have htl : (cl.take m).length = min m cl.length := List.length_take
  have htot : tot q.has ≤ 600000 := by
    have := tot_pos (any_take hg m)
    rw [h2]
    omega
  unfold play1 Qu.act
  rw [if_pos rfl]
  unfold Qu.put
  cases hb : bad n with
  | true =>
    simp only [if_true]
    rw [if_neg (fun h => absurd h.2 (by decide)), if_neg (by decide), List.append_nil]
    exact ⟨h1, h2, h3, h4, h5, by omega⟩
  | false =>
    have hn := bad_false.1 hb
    rw [if_neg (by decide), if_pos rfl]
    by_cases hl : cl.length < m
    · have hf : q.fits n = true := by
        unfold Qu.fits
        rw [h2, h3, h4, ← h2]
        simp only [Bool.and_eq_true, decide_eq_true_iff]
        refine ⟨?_, by omega⟩
        rw [h2]
        omega
      rw [if_pos hf]
      dsimp only
      rw [if_neg (fun h => absurd h.2 (by decide))]
      refine ⟨h1, ?_, h3, h4, ?_, ?_⟩
      · dsimp only
        rw [h2, List.take_of_length_le (by omega), List.take_of_length_le (by rw [List.length_append, List.length_singleton]; omega)]
      · dsimp only
        rw [h5, List.length_take, List.length_take, List.length_append, List.length_singleton]
        omega
      · rw [List.length_append, List.length_singleton]; omega
    · have hf : ¬ q.fits n = true := by
        unfold Qu.fits
        rw [h2, h3]
        simp only [Bool.and_eq_true, decide_eq_true_iff]
        omega
      rw [if_neg hf]
      have hd : ¬ q.dr = 1099511627776 := by omega
      rw [if_neg hd]
      dsimp only
      rw [if_neg (fun h => absurd h.2 (by decide))]
      refine ⟨h1, ?_, h3, h4, ?_, ?_⟩
      · dsimp only
        rw [h2, List.take_append_of_le_length (by omega)]
      · dsimp only
        rw [h5, List.length_take, List.length_take, List.length_append, List.length_singleton]
        simp only [Int.natCast_add]
        omega
      · rw [List.length_append, List.length_singleton]; omega
theorem ins_take (xs : List Int) (i : Nat) : (ins xs).take i = ins (xs.take i) := by
  unfold ins
  rw [List.map_take]
theorem only_at {m : Nat} (hm : m ≤ 400) (xs : List Int) (hx : xs.length ≤ 1048576) : ∀ i, i ≤ xs.length → Only m (plays m 1073741824 ((ins xs).take i)) (goods (xs.take i)) i
  | 0, _ => ⟨rfl, by simp [goods, plays, Qu.start], rfl, rfl, by simp [goods, plays, Qu.start], Nat.le_refl _⟩
  | i + 1, hi => by
    have ho : xs[i]? = some xs[i] := List.getElem?_eq_getElem (by omega)
    have hp : (ins xs)[i]? = some (1, xs[i]) := by unfold ins; rw [List.getElem?_map, ho]; rfl
    rw [plays_snoc hp, goods_snoc ho]
    exact only_step hm (only_at hm xs hx i (by omega)) (goods_good _) (by omega) _
theorem only_all {m : Nat} (hm : m ≤ 400) {xs : List Int} (hx : xs.length ≤ 1048576) : Only m (plays m 1073741824 (ins xs)) (goods xs) xs.length := by
  have := only_at hm xs hx xs.length (Nat.le_refl _)
  rwa [List.take_of_length_le (by unfold ins; rw [List.length_map]; exact Nat.le_refl _), List.take_length] at this
/-- What a queue with room for one packet more has. -/
theorem more_all {m : Nat} (hm : m + 1 ≤ 400) {xs : List Int} (hx : xs.length ≤ 1048576) :
    let a := (plays m 1073741824 (ins xs)).1
    let b := (plays (m + 1 : Nat) 1073741824 (ins xs)).1
    a.has.length ≤ b.has.length ∧ b.has.length ≤ a.has.length + 1 ∧ b.dr ≤ a.dr ∧ b.has.take a.has.length = a.has := by
  intro a b
  have ha := only_all (m := m) (by omega) hx
  have hb := only_all (m := m + 1) hm hx
  have h1 : a.has = (goods xs).take m := ha.has
  have h2 : b.has = (goods xs).take (m + 1) := hb.has
  have h3 : a.dr = _ := ha.dr
  have h4 : b.dr = _ := hb.dr
  have e1 : ((goods xs).take m).length = min m (goods xs).length := List.length_take
  have e2 : ((goods xs).take (m + 1)).length = min (m + 1) (goods xs).length := List.length_take
  rw [h1, h2, h3, h4]
  refine ⟨by omega, by omega, by omega, ?_⟩
  rw [e1, List.take_take]
  rcases Nat.le_total m (goods xs).length with h | h
  · congr 1; omega
  · rw [List.take_of_length_le (l := goods xs) (by omega), List.take_of_length_le (l := goods xs) (by omega)]
end Go.Proofs.Ythjnjfolbhhpnaa
