/- Prefixes of addresses and the trie of their bits, plain. No program is met here. -/
import Derived.Test.YtandfbepenjbhaaRows
namespace Go.Proofs.Ytandfbepenjbhaa

def Byte (x : Int) : Prop := 0 ≤ x ∧ x < 256
structure Ad where
  a0 : Int
  a1 : Int
  a2 : Int
  a3 : Int
structure Pf where
  ad : Ad
  bits : Int
  led : Int
def Ad.Ok (a : Ad) : Prop := Byte a.a0 ∧ Byte a.a1 ∧ Byte a.a2 ∧ Byte a.a3
def Ad.num (a : Ad) : Nat := (a.a0 * 16777216 + a.a1 * 65536 + a.a2 * 256 + a.a3).toNat
theorem Ad.Ok.lt {a : Ad} (h : a.Ok) : a.num < 4294967296 := by
  obtain ⟨⟨_, _⟩, ⟨_, _⟩, ⟨_, _⟩, _, _⟩ := h
  unfold Ad.num
  omega
def Pf.b (p : Pf) : Nat := p.bits.toNat
def Pf.n (p : Pf) : Nat := p.ad.num
/-- The first k bits of x. -/
def top (x k : Nat) : Nat := x / 2 ^ (32 - k)
def bitAt (x i : Nat) : Nat := x / 2 ^ (31 - i) % 2
def Pf.val (p : Pf) : Prop := 0 ≤ p.bits ∧ p.bits ≤ 32
def within (x : Nat) (p : Pf) : Prop := p.val ∧ top x p.b = top p.n p.b
def same (p q : Pf) : Prop := p.bits = q.bits ∧ p.n = q.n
def low (p : Pf) : Prop := p.n % 2 ^ (32 - p.b) = 0
open Classical in
noncomputable def wr (seen : List Pf) : List Pf → Int
  | [] => 0
  | p :: r => if ¬ p.val then 2 else if ¬ low p then 1 else if ∃ q ∈ seen, same q p then 6 else wr (seen ++ [p]) r
open Classical in
noncomputable def wrong (ps : List Pf) : Int := if 400 < ps.length then 2 else wr [] ps
open Classical in
noncomputable def inB (x : Nat) (p : Pf) : Bool := decide (within x p)
open Classical in
theorem inB_true {x : Nat} {p : Pf} (h : within x p) : inB x p = true := by unfold inB; exact decide_eq_true h
open Classical in
theorem inB_false {x : Nat} {p : Pf} (h : ¬ within x p) : inB x p = false := by unfold inB; exact decide_eq_false h
open Classical in
theorem inB_iff {x : Nat} {p : Pf} : inB x p = true ↔ within x p := by unfold inB; exact decide_eq_true_iff
structure Good (ps : List Pf) : Prop where
  len : ps.length ≤ 400
  val : ∀ p ∈ ps, p.val
  low : ∀ p ∈ ps, low p
  dis : ps.Pairwise (fun p q => ¬ same p q)

theorem same_symm {p q : Pf} (h : same p q) : same q p := ⟨h.1.symm, h.2.symm⟩
theorem wr_ok (seen r : List Pf) : wr seen r = 0 ↔ (∀ p ∈ r, p.val ∧ low p) ∧ r.Pairwise (fun p q => ¬ same p q) ∧ ∀ p ∈ r, ∀ q ∈ seen, ¬ same q p := by
  induction r generalizing seen with
  | nil => simp [wr]
  | cons p r ih =>
    unfold wr
    by_cases c1 : p.val
    · rw [if_neg (by simpa using c1)]
      by_cases c2 : low p
      · rw [if_neg (by simpa using c2)]
        by_cases c3 : ∃ q ∈ seen, same q p
        · rw [if_pos c3]
          obtain ⟨q, hq, hs⟩ := c3
          exact ⟨fun h => absurd h (by decide), fun h => absurd hs (h.2.2 p List.mem_cons_self q hq)⟩
        · rw [if_neg c3, ih]
          constructor
          · rintro ⟨h1, h2, h3⟩
            refine ⟨fun q hq => ?_, List.pairwise_cons.2 ⟨fun q hq => h3 q hq p (by simp), h2⟩, fun q hq s hs => ?_⟩
            · rcases List.mem_cons.1 hq with rfl | hq
              · exact ⟨c1, c2⟩
              · exact h1 q hq
            · rcases List.mem_cons.1 hq with rfl | hq
              · exact fun h => c3 ⟨s, hs, h⟩
              · exact h3 q hq s (List.mem_append_left _ hs)
          · rintro ⟨h1, h2, h3⟩
            obtain ⟨h4, h5⟩ := List.pairwise_cons.1 h2
            refine ⟨fun q hq => h1 q (List.mem_cons_of_mem _ hq), h5, fun q hq s hs => ?_⟩
            rcases List.mem_append.1 hs with hs | hs
            · exact h3 q (List.mem_cons_of_mem _ hq) s hs
            · obtain rfl : s = p := by simpa using hs
              exact h4 q hq
      · rw [if_pos (by simpa using c2)]
        exact ⟨fun h => absurd h (by decide), fun h => absurd (h.1 p List.mem_cons_self).2 c2⟩
    · rw [if_pos (by simpa using c1)]
      exact ⟨fun h => absurd h (by decide), fun h => absurd (h.1 p List.mem_cons_self).1 c1⟩
theorem wrong_ok (ps : List Pf) : wrong ps = 0 ↔ Good ps := by
  unfold wrong
  by_cases c : 400 < ps.length
  · rw [if_pos c]
    exact ⟨fun h => absurd h (by decide), fun h => absurd h.len (by omega)⟩
  · rw [if_neg c, wr_ok]
    exact ⟨fun ⟨h1, h2, _⟩ => ⟨by omega, fun p hp => (h1 p hp).1, fun p hp => (h1 p hp).2, h2⟩, fun h => ⟨fun p hp => ⟨h.val p hp, h.low p hp⟩, h.dis, fun p hp q hq => by cases hq⟩⟩
theorem wr_cases (seen r : List Pf) : wr seen r = 0 ∨ wr seen r = 1 ∨ wr seen r = 2 ∨ wr seen r = 6 := by
  induction r generalizing seen with
  | nil => exact .inl rfl
  | cons p r ih =>
    unfold wr
    split
    · exact .inr (.inr (.inl rfl))
    · split
      · exact .inr (.inl rfl)
      · split
        · exact .inr (.inr (.inr rfl))
        · exact ih _
theorem pairwise_weak {R S : Pf → Pf → Prop} {ps : List Pf} (h : ps.Pairwise R) (hh : ∀ a b, R a b → S a b) : ps.Pairwise S := by
  induction h with
  | nil => exact .nil
  | cons a _ ih => exact .cons (fun x hx => hh _ _ (a x hx)) ih
theorem good_reverse {ps : List Pf} (h : Good ps) : Good ps.reverse :=
  ⟨by simpa using h.len, fun p hp => h.val p (by simpa using hp), fun p hp => h.low p (by simpa using hp), by
    rw [List.pairwise_reverse]
    exact pairwise_weak h.dis (fun _ _ h k => h (same_symm k))⟩
theorem good_reverse_iff {ps : List Pf} : Good ps.reverse ↔ Good ps := ⟨fun h => by simpa using good_reverse h, good_reverse⟩

/-! ### the prefix with the most bits -/
open Classical in
noncomputable def pick (x : Nat) (b : Int × Int) (p : Pf) : Int × Int := if b.1 < p.bits ∧ within x p then (p.bits, p.led) else b
noncomputable def lookB (x : Nat) (ps : List Pf) : Int × Int := ps.foldl (pick x) (-1, 0)
noncomputable def lookTo (x : Nat) (ps : List Pf) : Int := (lookB x ps).2
noncomputable def lookIs (x : Nat) (ps : List Pf) : Bool := decide (0 ≤ (lookB x ps).1)

def IsBest (k : Int) (x : Nat) (ps : List Pf) (b : Int × Int) : Prop :=
  (b = (-1, 0) ∧ ∀ p ∈ ps, p.bits ≤ k → ¬ within x p) ∨ (∃ p ∈ ps, p.bits ≤ k ∧ within x p ∧ b = (p.bits, p.led) ∧ ∀ q ∈ ps, q.bits ≤ k → within x q → q.bits ≤ p.bits)
theorem fold_best (x : Nat) (ps : List Pf) : ∀ (done : List Pf) (b : Int × Int), IsBest 32 x done b → IsBest 32 x (done ++ ps) (ps.foldl (pick x) b) := by
  induction ps with
  | nil => intro done b h; simpa using h
  | cons p ps ih =>
    intro done b h
    rw [List.foldl_cons, show done ++ p :: ps = (done ++ [p]) ++ ps by simp]
    refine ih _ _ ?_
    unfold pick
    split
    · rename_i hc
      obtain ⟨h1, h2⟩ := hc
      refine .inr ⟨p, by simp, h2.1.2, h2, rfl, fun q hq hk hw => ?_⟩
      rcases List.mem_append.1 hq with hq | hq
      · rcases h with ⟨rfl, h⟩ | ⟨p', hp', _, _, rfl, h⟩
        · exact absurd hw (h q hq hk)
        · have := h q hq hk hw
          simp only at h1
          omega
      · obtain rfl : q = p := by simpa using hq
        exact Int.le_refl _
    · rename_i hc
      rcases h with ⟨rfl, h⟩ | ⟨p', hp', hk', hw', rfl, h⟩
      · refine .inl ⟨rfl, fun q hq hk hw => ?_⟩
        rcases List.mem_append.1 hq with hq | hq
        · exact h q hq hk hw
        · obtain rfl : q = p := by simpa using hq
          exact hc ⟨by have := hw.1.1; simp only; omega, hw⟩
      · refine .inr ⟨p', by simp [hp'], hk', hw', rfl, fun q hq hk hw => ?_⟩
        rcases List.mem_append.1 hq with hq | hq
        · exact h q hq hk hw
        · obtain rfl : q = p := by simpa using hq
          rcases Int.lt_or_le p'.bits q.bits with hl | hl
          · exact absurd ⟨hl, hw⟩ hc
          · exact hl
theorem look_best (x : Nat) (ps : List Pf) : IsBest 32 x ps (lookB x ps) := by
  have := fold_best x ps [] (-1, 0) (.inl ⟨rfl, fun p hp => by cases hp⟩)
  rwa [List.nil_append] at this

theorem pairwise_mem {R : Pf → Pf → Prop} {ps : List Pf} (h : ps.Pairwise R) {p q : Pf} (hp : p ∈ ps) (hq : q ∈ ps) : p = q ∨ R p q ∨ R q p := by
  induction ps with
  | nil => cases hp
  | cons a ps ih =>
    obtain ⟨h1, h2⟩ := List.pairwise_cons.1 h
    rcases List.mem_cons.1 hp with rfl | hp' <;> rcases List.mem_cons.1 hq with e | hq'
    · exact .inl e.symm
    · exact .inr (.inl (h1 q hq'))
    · rw [e]; exact .inr (.inr (h1 p hp'))
    · exact ih h2 hp' hq'
theorem num_of_top {p q : Pf} (hp : low p) (hq : low q) (hb : p.b = q.b) (ht : top p.n p.b = top q.n q.b) : p.n = q.n := by
  unfold low at hp hq
  unfold top at ht
  rw [← hb] at hq ht
  have a := Nat.div_add_mod p.n (2 ^ (32 - p.b))
  have c := Nat.div_add_mod q.n (2 ^ (32 - p.b))
  rw [hp] at a
  rw [hq] at c
  rw [← a, ← c, ht]
theorem val_b {p q : Pf} (hp : p.val) (hq : q.val) : p.b = q.b ↔ p.bits = q.bits := by
  obtain ⟨_, _⟩ := hp
  obtain ⟨_, _⟩ := hq
  unfold Pf.b
  omega
theorem one_of {ps : List Pf} (h : Good ps) {p q : Pf} (hp : p ∈ ps) (hq : q ∈ ps) {x : Nat} (wp : within x p) (wq : within x q) (hb : p.bits = q.bits) : p = q := by
  have hb' := (val_b wp.1 wq.1).2 hb
  have : same p q := ⟨hb, num_of_top (h.low p hp) (h.low q hq) hb' (by rw [← wp.2, ← wq.2, hb'])⟩
  rcases pairwise_mem h.dis hp hq with e | e | e
  · exact e
  · exact absurd this e
  · exact absurd (same_symm this) e
theorem best_one {ps : List Pf} (h : Good ps) {k : Int} {x : Nat} {b c : Int × Int} (hb : IsBest k x ps b) (hc : IsBest k x ps c) : b = c := by
  rcases hb with ⟨rfl, hb⟩ | ⟨p, hp, hpk, hpw, rfl, hb⟩ <;> rcases hc with ⟨rfl, hc⟩ | ⟨q, hq, hqk, hqw, rfl, hc⟩
  · rfl
  · exact absurd hqw (hb q hq hqk)
  · exact absurd hpw (hc p hp hpk)
  · have e := one_of h hp hq hpw hqw (Int.le_antisymm (hc p hp hpk hpw) (hb q hq hqk hqw))
    rw [e]
theorem best_perm {ps qs : List Pf} (h : ∀ p, p ∈ ps ↔ p ∈ qs) {k : Int} {x : Nat} {b : Int × Int} (hb : IsBest k x ps b) : IsBest k x qs b := by
  rcases hb with ⟨rfl, hb⟩ | ⟨p, hp, hpk, hpw, rfl, hb⟩
  · exact .inl ⟨rfl, fun p hp => hb p ((h p).2 hp)⟩
  · exact .inr ⟨p, (h p).1 hp, hpk, hpw, rfl, fun q hq => hb q ((h q).2 hq)⟩

/-! ### the trie -/
structure Nd where
  d0 : Nat
  d1 : Nat
  held : Bool
  led : Int
def Nd.zero : Nd := ⟨0, 0, false, 0⟩
def Nd.dn (a : Nd) (s : Nat) : Nat := if s = 0 then a.d0 else a.d1
def Nd.put (a : Nd) (s d : Nat) : Nd := if s = 0 then { a with d0 := d } else { a with d1 := d }
def nd (ns : List Nd) (j : Nat) : Nd := ns.getD j Nd.zero
def walk (ns : List Nd) (x : Nat) : Nat → Option Nat
  | 0 => some 0
  | k + 1 => (walk ns x k).bind fun j => if (nd ns j).dn (bitAt x k) = 0 then none else some ((nd ns j).dn (bitAt x k))

structure Tri (ns : List Nd) (ps : List Pf) (L : Nat → Nat × Nat) : Prop where
  pos : 0 < ns.length
  down : ∀ j s, j < ns.length → (nd ns j).dn s < ns.length
  root : L 0 = (0, 0)
  lab : ∀ j s, j < ns.length → s < 2 → (nd ns j).dn s ≠ 0 → L ((nd ns j).dn s) = ((L j).1 + 1, 2 * (L j).2 + s)
  held : ∀ j, j < ns.length → (nd ns j).held = true → ∃ p ∈ ps, L j = (p.b, top p.n p.b) ∧ (nd ns j).led = p.led
  zero : ∀ j, j < ns.length → (nd ns j).held = false → (nd ns j).led = 0
  has : ∀ p ∈ ps, ∃ j, walk ns p.n p.b = some j ∧ (nd ns j).held = true
def TriOk (ns : List Nd) (ps : List Pf) : Prop := ∃ L, Tri ns ps L

theorem bitAt_lt (x i : Nat) : bitAt x i < 2 := Nat.mod_lt _ (by decide)
theorem top_step (x k : Nat) (hk : k < 32) : top x (k + 1) = 2 * top x k + bitAt x k := by
  unfold top bitAt
  rw [show 32 - (k + 1) = 31 - k by omega, show 32 - k = (31 - k) + 1 by omega, Nat.pow_succ, ← Nat.div_div_eq_div_mul]
  omega
theorem walk_succ {ns : List Nd} {x k j : Nat} (h : walk ns x (k + 1) = some j) : ∃ i, walk ns x k = some i ∧ (nd ns i).dn (bitAt x k) ≠ 0 ∧ j = (nd ns i).dn (bitAt x k) := by
  simp only [walk, Option.bind_eq_some_iff] at h
  obtain ⟨i, h1, h2⟩ := h
  refine ⟨i, h1, ?_⟩
  by_cases c : (nd ns i).dn (bitAt x k) = 0
  · rw [if_pos c] at h2; cases h2
  · rw [if_neg c] at h2
    injection h2 with h2
    exact ⟨c, h2.symm⟩
theorem walk_next {ns : List Nd} {x k i : Nat} (h : walk ns x k = some i) (hd : (nd ns i).dn (bitAt x k) ≠ 0) : walk ns x (k + 1) = some ((nd ns i).dn (bitAt x k)) := by
  simp only [walk, h, Option.bind_some, if_neg hd]
theorem walk_none {ns : List Nd} {x k i : Nat} (h : walk ns x k = some i) (hd : (nd ns i).dn (bitAt x k) = 0) : walk ns x (k + 1) = none := by
  simp only [walk, h, Option.bind_some, if_pos hd]
theorem walk_after {ns : List Nd} {x k : Nat} (h : walk ns x k = none) (d : Nat) : walk ns x (k + d) = none := by
  induction d with
  | zero => exact h
  | succ d ih =>
    rw [← Nat.add_assoc]
    simp only [walk, ih, Option.bind_none]
theorem top_of {x y k : Nat} (hk : k < 32) (h : top x (k + 1) = top y (k + 1)) : top x k = top y k ∧ bitAt x k = bitAt y k := by
  rw [top_step x k hk, top_step y k hk] at h
  have := bitAt_lt x k
  have := bitAt_lt y k
  omega
theorem walk_top (ns : List Nd) {x y : Nat} : ∀ k, k ≤ 32 → top x k = top y k → walk ns x k = walk ns y k
  | 0, _, _ => rfl
  | k + 1, hk, h => by
    obtain ⟨h1, h2⟩ := top_of (by omega) h
    simp only [walk, h2, walk_top ns k (by omega) h1]
theorem Tri.lt {ns : List Nd} {ps : List Pf} {L : Nat → Nat × Nat} (h : Tri ns ps L) {x k j : Nat} (hw : walk ns x k = some j) : j < ns.length := by
  cases k with
  | zero => injection hw with hw; subst hw; exact h.pos
  | succ k =>
    obtain ⟨i, h1, h2, rfl⟩ := walk_succ hw
    exact h.down _ _ (h.lt h1)
theorem Tri.label {ns : List Nd} {ps : List Pf} {L : Nat → Nat × Nat} (h : Tri ns ps L) {x : Nat} (hx : x < 4294967296) {k j : Nat} (hk : k ≤ 32) (hw : walk ns x k = some j) : L j = (k, top x k) := by
  induction k generalizing j with
  | zero =>
    injection hw with hw
    subst hw
    rw [h.root]
    unfold top
    rw [Nat.div_eq_of_lt (by simpa using hx)]
  | succ k ih =>
    obtain ⟨i, h1, h2, rfl⟩ := walk_succ hw
    rw [h.lab i _ (h.lt h1) (bitAt_lt _ _) h2, ih (by omega) h1, top_step x k (by omega)]

/-- A new node below at. -/
def grow (ns : List Nd) (at_ s : Nat) : List Nd := ns.set at_ ((nd ns at_).put s ns.length) ++ [Nd.zero]
theorem nd_lt {ns : List Nd} {j : Nat} (h : j < ns.length) : nd ns j = ns[j] := by simp [nd, h]
theorem nd_at {ns : List Nd} {j : Nat} (h : j < ns.length) : ns[j]? = some (nd ns j) := by rw [nd_lt h]; exact List.getElem?_eq_getElem h
theorem nd_set {ns : List Nd} {i : Nat} (a : Nd) (hi : i < ns.length) (j : Nat) : nd (ns.set i a) j = if j = i then a else nd ns j := by
  unfold nd
  rw [List.getD_eq_getElem?_getD, List.getD_eq_getElem?_getD, List.getElem?_set]
  by_cases c : i = j
  · subst c; simp [hi]
  · rw [if_neg c, if_neg (fun e => c e.symm)]
theorem nd_snoc (ns : List Nd) (j : Nat) : nd (ns ++ [Nd.zero]) j = nd ns j := by
  unfold nd
  rw [List.getD_eq_getElem?_getD, List.getD_eq_getElem?_getD, List.getElem?_append]
  by_cases c : j < ns.length
  · rw [if_pos c]
  · rw [if_neg c, List.getElem?_eq_none (l := ns) (by omega)]
    rcases Nat.eq_zero_or_pos (j - ns.length) with e | e
    · rw [e]; rfl
    · rw [List.getElem?_eq_none (l := [Nd.zero]) (by simp; omega)]
theorem nd_grow {ns : List Nd} {i : Nat} (s : Nat) (hi : i < ns.length) (j : Nat) : nd (grow ns i s) j = if j = i then (nd ns i).put s ns.length else nd ns j := by
  unfold grow
  rw [nd_snoc, nd_set _ hi]
theorem grow_length (ns : List Nd) (i s : Nat) : (grow ns i s).length = ns.length + 1 := by simp [grow]
theorem put_dn (a : Nd) (s d t : Nat) (hs : s < 2) (ht : t < 2) : (a.put s d).dn t = if t = s then d else a.dn t := by
  unfold Nd.put Nd.dn
  rcases (show s = 0 ∨ s = 1 by omega) with rfl | rfl <;> rcases (show t = 0 ∨ t = 1 by omega) with rfl | rfl <;> rfl
theorem put_held (a : Nd) (s d : Nat) : (a.put s d).held = a.held ∧ (a.put s d).led = a.led := by
  unfold Nd.put
  split <;> exact ⟨rfl, rfl⟩
theorem put_dn_any (a : Nd) (s d t : Nat) : (a.put s d).dn t = d ∨ (a.put s d).dn t = a.dn t := by
  unfold Nd.put Nd.dn
  split <;> split <;> first | exact .inl rfl | exact .inr rfl
theorem grow_node {ns : List Nd} {i : Nat} (s : Nat) (hi : i < ns.length) (j : Nat) : (nd (grow ns i s) j).held = (nd ns j).held ∧ (nd (grow ns i s) j).led = (nd ns j).led := by
  rw [nd_grow s hi]
  split
  · rename_i e; subst e; exact put_held _ _ _
  · exact ⟨rfl, rfl⟩
theorem grow_dn {ns : List Nd} {i : Nat} {s : Nat} (hi : i < ns.length) (hs : s < 2) (j : Nat) {t : Nat} (ht : t < 2) : (nd (grow ns i s) j).dn t = if j = i ∧ t = s then ns.length else (nd ns j).dn t := by
  rw [nd_grow s hi]
  by_cases c : j = i
  · subst c
    rw [if_pos rfl, put_dn _ _ _ _ hs ht]
    by_cases d : t = s
    · rw [if_pos d, if_pos ⟨rfl, d⟩]
    · rw [if_neg d, if_neg (fun h => d h.2)]
  · rw [if_neg c, if_neg (fun h => c h.1)]
theorem grow_walk {ns : List Nd} {i : Nat} {s : Nat} (hi : i < ns.length) (hs : s < 2) (h0 : (nd ns i).dn s = 0) {x : Nat} : ∀ {k j : Nat}, walk ns x k = some j → walk (grow ns i s) x k = some j
  | 0, _, h => h
  | k + 1, j, h => by
    obtain ⟨m, h1, h2, rfl⟩ := walk_succ h
    have h3 := grow_walk hi hs h0 h1
    have e : (nd (grow ns i s) m).dn (bitAt x k) = (nd ns m).dn (bitAt x k) := by
      rw [grow_dn hi hs _ (bitAt_lt _ _), if_neg]
      rintro ⟨rfl, e⟩
      rw [e] at h2
      exact h2 h0
    rw [walk_next h3 (by rw [e]; exact h2), e]
theorem Tri.grow {ns : List Nd} {ps : List Pf} {L : Nat → Nat × Nat} (h : Tri ns ps L) {i s : Nat} (hi : i < ns.length) (hs : s < 2) (h0 : (nd ns i).dn s = 0) :
    Tri (grow ns i s) ps (fun j => if j = ns.length then ((L i).1 + 1, 2 * (L i).2 + s) else L j) := by
  have hout : ∀ j, ns.length ≤ j → nd ns j = Nd.zero := fun j hj => by simp [nd, List.getD_eq_getElem?_getD, List.getElem?_eq_none hj]
  refine ⟨by rw [grow_length]; omega, fun j t hj => ?_, ?_, fun j t hj ht hd => ?_, fun j hj hh => ?_, fun j hj hh => ?_, fun p hp => ?_⟩
  · rw [grow_length] at hj ⊢
    rw [nd_grow s hi]
    split
    · rcases put_dn_any (nd ns i) s ns.length t with e | e
      · omega
      · have := h.down i t hi; omega
    · rcases Nat.lt_or_ge j ns.length with hl | hl
      · have := h.down j t hl; omega
      · rw [hout j hl]
        have : Nd.zero.dn t = 0 := by unfold Nd.dn; split <;> rfl
        omega
  · rw [if_neg (by have := h.pos; omega)]
    exact h.root
  · rw [grow_length] at hj
    rw [grow_dn hi hs j ht] at hd ⊢
    by_cases c : j = i ∧ t = s
    · obtain ⟨rfl, rfl⟩ := c
      rw [if_pos (And.intro rfl rfl)]
      rw [if_pos rfl, if_neg (by omega)]
    · rw [if_neg c] at hd ⊢
      have hl : j < ns.length := by
        rcases Nat.lt_or_ge j ns.length with hl | hl
        · exact hl
        · rw [hout j hl] at hd
          exact absurd (by unfold Nd.dn; split <;> rfl) hd
      have := h.down j t hl
      rw [if_neg (by omega), if_neg (by omega)]
      exact h.lab j t hl ht hd
  · rw [(grow_node s hi j).1] at hh
    rw [(grow_node s hi j).2]
    have hl : j < ns.length := by
      rcases Nat.lt_or_ge j ns.length with hl | hl
      · exact hl
      · rw [hout j hl] at hh; cases hh
    rw [if_neg (by omega)]
    exact h.held j hl hh
  · rw [(grow_node s hi j).1] at hh
    rw [(grow_node s hi j).2]
    rcases Nat.lt_or_ge j ns.length with hl | hl
    · exact h.zero j hl hh
    · rw [hout j hl]; rfl
  · obtain ⟨j, h1, h2⟩ := h.has p hp
    exact ⟨j, grow_walk hi hs h0 h1, by rw [(grow_node s hi j).1]; exact h2⟩

/-- What a step down makes of the trie. -/
def Stepped (ns : List Nd) (at_ s : Nat) (ns' : List Nd) (r : Nat) : Prop :=
  ((nd ns at_).dn s ≠ 0 ∧ ns' = ns ∧ r = (nd ns at_).dn s) ∨ ((nd ns at_).dn s = 0 ∧ ns' = grow ns at_ s ∧ r = ns.length)
theorem stepped_ok {ns ns' : List Nd} {ps : List Pf} {at_ r x i : Nat} (h : TriOk ns ps) (hw : walk ns x i = some at_) (hs : Stepped ns at_ (bitAt x i) ns' r) : TriOk ns' ps ∧ walk ns' x (i + 1) = some r ∧ ns'.length ≤ ns.length + 1 := by
  obtain ⟨L, h⟩ := h
  have hl := h.lt hw
  rcases hs with ⟨h0, rfl, rfl⟩ | ⟨h0, rfl, rfl⟩
  · exact ⟨⟨L, h⟩, walk_next hw h0, by omega⟩
  · have e : (nd (grow ns at_ (bitAt x i)) at_).dn (bitAt x i) = ns.length := by rw [grow_dn hl (bitAt_lt _ _) _ (bitAt_lt _ _), if_pos ⟨rfl, rfl⟩]
    refine ⟨⟨_, h.grow hl (bitAt_lt _ _) h0⟩, ?_, by rw [grow_length]; omega⟩
    have hp := h.pos
    rw [walk_next (grow_walk hl (bitAt_lt _ _) h0 hw) (by rw [e]; omega), e]

/-- A prefix set into the trie. -/
def holdNd (ns : List Nd) (i : Nat) (t : Int) : List Nd := ns.set i { nd ns i with held := true, led := t }
theorem hold_nd {ns : List Nd} {i : Nat} (t : Int) (hi : i < ns.length) (j : Nat) : nd (holdNd ns i t) j = if j = i then { nd ns i with held := true, led := t } else nd ns j := nd_set _ hi j
theorem hold_dn {ns : List Nd} {i : Nat} (t : Int) (hi : i < ns.length) (j s : Nat) : (nd (holdNd ns i t) j).dn s = (nd ns j).dn s := by
  rw [hold_nd t hi]
  split
  · rename_i e; subst e; rfl
  · rfl
theorem hold_walk {ns : List Nd} {i : Nat} (t : Int) (hi : i < ns.length) (x : Nat) : ∀ k, walk (holdNd ns i t) x k = walk ns x k
  | 0 => rfl
  | k + 1 => by
    simp only [walk, hold_walk t hi x k, hold_dn t hi]
theorem hold_ok {ns : List Nd} {ps : List Pf} {p : Pf} {i : Nat} (h : TriOk ns ps) (hp : p.val) (hx : p.n < 4294967296) (hw : walk ns p.n p.b = some i) : TriOk (holdNd ns i p.led) (ps ++ [p]) := by
  obtain ⟨L, h⟩ := h
  have hl := h.lt hw
  have hlen : (holdNd ns i p.led).length = ns.length := by simp [holdNd]
  refine ⟨L, by rw [hlen]; exact h.pos, fun j s hj => ?_, h.root, fun j s hj hs hd => ?_, fun j hj hh => ?_, fun j hj hh => ?_, fun q hq => ?_⟩
  · rw [hlen] at hj ⊢
    rw [hold_dn p.led hl]
    exact h.down j s hj
  · rw [hlen] at hj
    rw [hold_dn p.led hl] at hd ⊢
    exact h.lab j s hj hs hd
  · rw [hlen] at hj
    rw [hold_nd p.led hl] at hh ⊢
    by_cases c : j = i
    · subst c
      rw [if_pos rfl]
      exact ⟨p, by simp, h.label hx (by have := hp.2; have := hp.1; unfold Pf.b; omega) hw, rfl⟩
    · rw [if_neg c] at hh ⊢
      obtain ⟨q, hq, h1, h2⟩ := h.held j hj hh
      exact ⟨q, by simp [hq], h1, h2⟩
  · rw [hlen] at hj
    rw [hold_nd p.led hl] at hh ⊢
    by_cases c : j = i
    · rw [if_pos c] at hh; cases hh
    · rw [if_neg c] at hh ⊢
      exact h.zero j hj hh
  · rcases List.mem_append.1 hq with hq | hq
    · obtain ⟨j, h1, h2⟩ := h.has q hq
      refine ⟨j, by rw [hold_walk p.led hl]; exact h1, ?_⟩
      rw [hold_nd p.led hl]
      split
      · rfl
      · exact h2
    · obtain rfl : q = p := by simpa using hq
      refine ⟨i, by rw [hold_walk q.led hl]; exact hw, ?_⟩
      rw [hold_nd q.led hl, if_pos rfl]
theorem held_iff {ns : List Nd} {ps : List Pf} {p : Pf} {i : Nat} (h : TriOk ns ps) (hp : p.val) (hv : ∀ q ∈ ps, q.val ∧ low q) (hlo : low p) (hx : p.n < 4294967296) (hw : walk ns p.n p.b = some i) :
    (nd ns i).held = true ↔ ∃ q ∈ ps, same q p := by
  obtain ⟨L, h⟩ := h
  have hb : p.b ≤ 32 := by have := hp.2; have := hp.1; unfold Pf.b; omega
  constructor
  · intro hh
    obtain ⟨q, hq, h1, h2⟩ := h.held i (h.lt hw) hh
    rw [h.label hx hb hw] at h1
    injection h1 with h1 h3
    exact ⟨q, hq, (val_b (hv q hq).1 hp).1 h1.symm, num_of_top (hv q hq).2 hlo h1.symm h3.symm⟩
  · rintro ⟨q, hq, h1, h2⟩
    obtain ⟨j, h3, h4⟩ := h.has q hq
    have e : q.b = p.b := (val_b (hv q hq).1 hp).2 h1
    rw [e, h2, hw] at h3
    injection h3 with h3
    rw [h3]
    exact h4

/-- The last held node on the way along x. -/
def bst (ns : List Nd) (x : Nat) : Nat → Int × Bool
  | 0 => ((nd ns 0).led, (nd ns 0).held)
  | k + 1 => match walk ns x (k + 1) with
    | none => bst ns x k
    | some j => if (nd ns j).held = true then ((nd ns j).led, true) else bst ns x k
theorem bst_stop {ns : List Nd} {x i : Nat} (h : walk ns x (i + 1) = none) (d : Nat) : bst ns x (i + d) = bst ns x i := by
  induction d with
  | zero => rfl
  | succ d ih =>
    have := walk_after h d
    rw [show i + 1 + d = i + d + 1 by omega] at this
    rw [← Nat.add_assoc]
    simp only [bst, this, ih]
theorem bst_held {ns : List Nd} {x i j : Nat} (h : walk ns x (i + 1) = some j) (hh : (nd ns j).held = true) : bst ns x (i + 1) = ((nd ns j).led, true) := by
  simp only [bst, h, if_pos hh]
theorem bst_not {ns : List Nd} {x i j : Nat} (h : walk ns x (i + 1) = some j) (hh : (nd ns j).held = false) : bst ns x (i + 1) = bst ns x i := by
  simp only [bst, h, hh, Bool.false_eq_true, if_false]
theorem bst_best {ns : List Nd} {ps : List Pf} {L : Nat → Nat × Nat} (h : Tri ns ps L) (hv : ∀ q ∈ ps, q.val) {x : Nat} (hx : x < 4294967296) (hn : ∀ q ∈ ps, q.n < 4294967296) :
    ∀ k : Nat, k ≤ 32 → ∃ b : Int × Int, IsBest k x ps b ∧ bst ns x k = (b.2, decide (0 ≤ b.1))
  | 0, _ => by
    cases hh : (nd ns 0).held with
    | true =>
      obtain ⟨p, hp, h1, h2⟩ := h.held 0 h.pos hh
      have hpv := hv p hp
      rw [h.root] at h1
      injection h1 with h1 h3
      have hb0 : p.bits = 0 := by have := hpv.1; unfold Pf.b at h1; omega
      have hx0 : top x 0 = 0 := Nat.div_eq_of_lt (by simpa using hx)
      refine ⟨(p.bits, p.led), .inr ⟨p, hp, by omega, ⟨hpv, by rw [← h1, hx0]; rw [← h1] at h3; exact h3⟩, rfl, fun q hq hk _ => ?_⟩, ?_⟩
      · have := (hv q hq).1
        omega
      · unfold bst
        rw [hh, h2, hb0]
        rfl
    | false =>
      refine ⟨(-1, 0), .inl ⟨rfl, fun p hp hk hw => ?_⟩, ?_⟩
      · obtain ⟨j, h1, h2⟩ := h.has p hp
        have h0 : p.b = 0 := by unfold Pf.b; omega
        rw [h0] at h1
        injection h1 with h1
        subst h1
        rw [hh] at h2
        cases h2
      · unfold bst
        rw [hh, h.zero 0 h.pos hh]
        rfl
  | k + 1, hk => by
    obtain ⟨b, hb, he⟩ := bst_best h hv hx hn k (by omega)
    have skip : (∀ p ∈ ps, p.bits = ((k + 1 : Nat) : Int) → ¬ within x p) → IsBest ((k + 1 : Nat) : Int) x ps b := fun hno => by
      rcases hb with ⟨rfl, hb⟩ | ⟨p, hp, hpk, hpw, rfl, hb⟩
      · refine .inl ⟨rfl, fun p hp hpk hw => ?_⟩
        rcases Int.lt_or_le (k : Int) p.bits with hl | hl
        · exact hno p hp (by omega) hw
        · exact hb p hp hl hw
      · refine .inr ⟨p, hp, by omega, hpw, rfl, fun q hq hqk hw => ?_⟩
        rcases Int.lt_or_le (k : Int) q.bits with hl | hl
        · exact absurd hw (hno q hq (by omega))
        · exact hb q hq hl hw
    have find : ∀ p ∈ ps, p.bits = ((k + 1 : Nat) : Int) → within x p → ∃ j, walk ns x (k + 1) = some j ∧ (nd ns j).held = true := fun p hp hpb hw => by
      obtain ⟨j, h1, h2⟩ := h.has p hp
      have hb1 : p.b = k + 1 := by unfold Pf.b; omega
      rw [hb1] at h1
      refine ⟨j, ?_, h2⟩
      rw [← h1]
      exact walk_top ns (k + 1) hk (by rw [← hb1]; exact hw.2)
    cases hwk : walk ns x (k + 1) with
    | none =>
      refine ⟨b, skip (fun p hp hpb hw => ?_), ?_⟩
      · obtain ⟨j, h1, _⟩ := find p hp hpb hw
        rw [hwk] at h1
        cases h1
      · simp only [bst, hwk]
        exact he
    | some j =>
      cases hh : (nd ns j).held with
      | true =>
        obtain ⟨p, hp, h1, h2⟩ := h.held j (h.lt hwk) hh
        rw [h.label hx hk hwk] at h1
        injection h1 with h1 h3
        have hpv := hv p hp
        have hpb : p.bits = ((k + 1 : Nat) : Int) := by have := hpv.1; unfold Pf.b at h1; omega
        refine ⟨(p.bits, p.led), .inr ⟨p, hp, by omega, ⟨hpv, by rw [← h1]; rw [← h1] at h3; exact h3⟩, rfl, fun q hq hqk _ => by omega⟩, ?_⟩
        rw [bst_held hwk hh, h2, hpb]
        simp only [Prod.mk.injEq, true_and]
        exact (decide_eq_true (by omega)).symm
      | false =>
        refine ⟨b, skip (fun p hp hpb hw => ?_), ?_⟩
        · obtain ⟨j', h1, h2⟩ := find p hp hpb hw
          rw [hwk] at h1
          injection h1 with h1
          rw [← h1, hh] at h2
          cases h2
        · rw [bst_not hwk hh]
          exact he
theorem bst_look {ns : List Nd} {ps : List Pf} (h : TriOk ns ps) (hg : Good ps) {x : Nat} (hx : x < 4294967296) (hn : ∀ q ∈ ps, q.n < 4294967296) : bst ns x 32 = (lookTo x ps, lookIs x ps) := by
  obtain ⟨L, h⟩ := h
  obtain ⟨b, hb, he⟩ := bst_best h hg.val hx hn 32 (Nat.le_refl _)
  have e := best_one hg hb (look_best x ps)
  rw [he, e]
  rfl
theorem tri_start : TriOk [Nd.zero] [] := by
  refine ⟨fun _ => (0, 0), by simp, fun j s hj => ?_, rfl, fun j s hj hs hd => ?_, fun j hj hh => ?_, fun j hj hh => ?_, fun p hp => by cases hp⟩
  all_goals
    obtain rfl : j = 0 := by simpa using hj
  · show Nd.zero.dn s < 1
    unfold Nd.dn
    split <;> decide
  · exact absurd (by show Nd.zero.dn s = 0; unfold Nd.dn; split <;> rfl) hd
  · cases hh
  · rfl
end Go.Proofs.Ytandfbepenjbhaa
