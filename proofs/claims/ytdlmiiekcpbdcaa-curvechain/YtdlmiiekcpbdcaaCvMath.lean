/- Curves and services, plain: what package curve reckons, and what follows from it. -/
import Derived.Test.YtdlmiiekcpbdcaaWd0
namespace Go.Proofs.Ytdlmiiekcpbdcaa

def out20 (n : Int) : Bool := decide (n < 0) || decide (1048576 < n)
theorem out20_false {n : Int} : out20 n = false ↔ 0 ≤ n ∧ n ≤ 1048576 := by
  unfold out20
  rw [Bool.or_eq_false_iff, decide_eq_false_iff_not, decide_eq_false_iff_not]
  omega
def wtr (xs : List Int) : Bool := decide (400 < (xs.length : Int)) || xs.any out20
theorem wtr_false {xs : List Int} : wtr xs = false ↔ xs.length ≤ 400 ∧ ∀ x ∈ xs, 0 ≤ x ∧ x ≤ 1048576 := by
  unfold wtr
  rw [Bool.or_eq_false_iff, decide_eq_false_iff_not, List.any_eq_false]
  constructor
  · rintro ⟨h1, h2⟩
    refine ⟨by omega, fun x hx => out20_false.1 ?_⟩
    have := h2 x hx
    simpa using this
  · rintro ⟨h1, h2⟩
    refine ⟨by omega, fun x hx => ?_⟩
    rw [out20_false.2 (h2 x hx)]
    decide

def wrong4 (b r l s : Int) : Bool := (out20 b || out20 r) || (out20 l || out20 s)
theorem wrong4_false {b r l s : Int} : wrong4 b r l s = false ↔ (0 ≤ b ∧ b ≤ 1048576) ∧ (0 ≤ r ∧ r ≤ 1048576) ∧ (0 ≤ l ∧ l ≤ 1048576) ∧ (0 ≤ s ∧ s ≤ 1048576) := by
  unfold wrong4
  simp only [Bool.or_eq_false_iff, out20_false]
  constructor
  · rintro ⟨⟨h1, h2⟩, h3, h4⟩
    exact ⟨h1, h2, h3, h4⟩
  · rintro ⟨h1, h2, h3, h4⟩
    exact ⟨⟨h1, h2⟩, h3, h4⟩
def late (b r l s : Int) : Int := l + (b + r + s - 1) / s - 1
def delay (b r l s : Int) : Int × Int :=
  if wrong4 b r l s = true then (0, 2) else if b + r = 0 then (0, 0) else if s = 0 ∨ s < r then (0, 3) else (late b r l s, 0)
def backlog (b r l s : Int) : Int × Int := if (delay b r l s).2 = 0 then (b + r * l, 0) else (0, (delay b r l s).2)
def chain (l s m t : Int) : (Int × Int) × Int :=
  if ((out20 l || out20 s) || (out20 m || out20 t)) = true then ((0, 0), 2) else if 1048576 < l + m then ((0, 0), 4) else ((l + m, min s t), 0)
/-- The ways of a delay: a number out of bounds, nothing comes, it never ends, it ends. -/
inductive DWay (b r l s : Int) : Int × Int → Prop
  | bad (h : wrong4 b r l s = true) : DWay b r l s (0, 2)
  | zero (h : wrong4 b r l s = false) (h0 : b + r = 0) : DWay b r l s (0, 0)
  | none (h : wrong4 b r l s = false) (h0 : b + r ≠ 0) (h1 : s = 0 ∨ s < r) : DWay b r l s (0, 3)
  | some (h : wrong4 b r l s = false) (h0 : b + r ≠ 0) (h1 : 1 ≤ s) (h2 : r ≤ s) : DWay b r l s (late b r l s, 0)
theorem delay_way (b r l s : Int) : DWay b r l s (delay b r l s) := by
  unfold delay
  cases h : wrong4 b r l s with
  | true => rw [if_pos rfl]; exact .bad h
  | false =>
    have := wrong4_false.1 h
    rw [if_neg (by decide)]
    by_cases h0 : b + r = 0
    · rw [if_pos h0]; exact .zero h h0
    · rw [if_neg h0]
      by_cases h1 : s = 0 ∨ s < r
      · rw [if_pos h1]; exact .none h h0 h1
      · rw [if_neg h1]; exact .some h h0 (by omega) (by omega)
/-- How long a burst takes: the least number of units. -/
theorem ceil_spec {x s : Int} (h1 : 1 ≤ s) (h0 : 1 ≤ x) : 1 ≤ (x + s - 1) / s ∧ x ≤ s * ((x + s - 1) / s) ∧ s * ((x + s - 1) / s) ≤ x + s - 1 := by
  have e : s * ((x + s - 1) / s) + (x + s - 1) % s = x + s - 1 := Int.mul_ediv_add_emod _ _
  have m0 := Int.emod_nonneg (x + s - 1) (show s ≠ 0 by omega)
  have m1 := Int.emod_lt_of_pos (x + s - 1) (show 0 < s by omega)
  refine ⟨?_, by omega, by omega⟩
  rw [Int.le_ediv_iff_mul_le (by omega)]
  omega
theorem ceil_mono {x y s : Int} (h1 : 1 ≤ s) (h : x ≤ y) : (x + s - 1) / s ≤ (y + s - 1) / s := Int.ediv_le_ediv (by omega) (by omega)
theorem late_nonneg {b r l s : Int} (h : wrong4 b r l s = false) (h0 : b + r ≠ 0) (h1 : 1 ≤ s) : 0 ≤ late b r l s := by
  have := wrong4_false.1 h
  have := ceil_spec (x := b + r) h1 (by omega)
  unfold late
  omega
theorem late_le {b r l s : Int} (h : wrong4 b r l s = false) (h0 : b + r ≠ 0) (h1 : 1 ≤ s) : late b r l s ≤ 4194304 := by
  have := wrong4_false.1 h
  have hc := ceil_spec (x := b + r) h1 (by omega)
  have : (b + r + s - 1) / s ≤ b + r + s - 1 := by
    apply Int.ediv_le_self
    omega
  unfold late
  omega
theorem delay_nonneg (b r l s : Int) : 0 ≤ (delay b r l s).1 ∧ (delay b r l s).1 ≤ 4194304 := by
  have h := delay_way b r l s
  generalize delay b r l s = d at h
  cases h with
  | bad => exact ⟨by decide, by decide⟩
  | zero => exact ⟨by decide, by decide⟩
  | none => exact ⟨by decide, by decide⟩
  | some h h0 h1 _ => exact ⟨late_nonneg h h0 h1, late_le h h0 h1⟩
/-- A delay is long enough, for every number of units. -/
theorem delay_enough {b r l s : Int} (h : (delay b r l s).2 = 0) {n : Int} (hn : 1 ≤ n) : b + r * n ≤ s * max 0 (n + (delay b r l s).1 - l) := by
  have hw := delay_way b r l s
  generalize hd : delay b r l s = d at *
  cases hw with
  | bad => cases h
  | none => cases h
  | zero hf h0 =>
    have := wrong4_false.1 hf
    obtain rfl : b = 0 := by omega
    obtain rfl : r = 0 := by omega
    rw [Int.zero_mul]
    exact Int.mul_nonneg (by omega) (by omega)
  | some hf h0 h1 h2 =>
    have := wrong4_false.1 hf
    obtain ⟨c1, c2, _⟩ := ceil_spec (x := b + r) h1 (by omega)
    unfold late
    generalize (b + r + s - 1) / s = c at *
    rw [show max 0 (n + (l + c - 1) - l) = (n - 1) + c by omega, Int.mul_add]
    have k1 : r * (n - 1) ≤ s * (n - 1) := Int.mul_le_mul_of_nonneg_right h2 (by omega)
    rw [Int.mul_sub, Int.mul_one] at k1
    omega

/-- The sum of a list. -/
def tot : List Int → Int
  | [] => 0
  | x :: r => x + tot r
theorem tot_nil : tot [] = 0 := rfl
theorem tot_cons (x : Int) (r : List Int) : tot (x :: r) = x + tot r := rfl
theorem tot_append (xs ys : List Int) : tot (xs ++ ys) = tot xs + tot ys := by
  induction xs with
  | nil => rw [List.nil_append, tot_nil]; omega
  | cons x r ih => rw [List.cons_append, tot_cons, tot_cons]; omega
theorem tot_snoc {xs : List Int} {i : Nat} {x : Int} (h : xs[i]? = some x) : tot (xs.take (i + 1)) = tot (xs.take i) + x := by
  rw [List.take_add_one, h, tot_append]
  show tot (xs.take i) + (x + 0) = _
  omega
theorem tot_bound {xs : List Int} (h : ∀ x ∈ xs, 0 ≤ x ∧ x ≤ 1048576) : 0 ≤ tot xs ∧ tot xs ≤ 1048576 * (xs.length : Int) := by
  induction xs with
  | nil => exact ⟨by decide, by decide⟩
  | cons x r ih =>
    have h1 := h x (by simp)
    have h2 := ih (fun y hy => h y (by simp [hy]))
    rw [tot_cons, List.length_cons]
    omega

/-- By how much what came is above the rate; whether it stays within the burst. -/
def keepsGo (b r : Int) : Int → List Int → Bool
  | _, [] => true
  | a, x :: xs => decide (max a 0 + x - r ≤ b) && keepsGo b r (max a 0 + x - r) xs
/-- From here on, with so much already. -/
def runGo (b r : Int) : Int → List Int → Bool
  | _, [] => true
  | a, x :: xs => decide (a + x - r ≤ b) && runGo b r (a + x - r) xs
def allRun (b r : Int) : List Int → Bool
  | [] => true
  | x :: xs => runGo b r 0 (x :: xs) && allRun b r xs
theorem runGo_mono {b r : Int} : ∀ {xs : List Int} {a c : Int}, c ≤ a → runGo b r a xs = true → runGo b r c xs = true
  | [], _, _, _, _ => rfl
  | x :: xs, a, c, h, k => by
    unfold runGo at k ⊢
    rw [Bool.and_eq_true, decide_eq_true_eq] at k ⊢
    exact ⟨by omega, runGo_mono (by omega) k.2⟩
theorem runGo_max {b r : Int} {xs : List Int} {a : Int} (h : allRun b r xs = true) : runGo b r (max a 0) xs = runGo b r a xs := by
  rw [Bool.eq_iff_iff]
  refine ⟨runGo_mono (by omega), fun k => ?_⟩
  by_cases c : 0 ≤ a
  · rwa [show max a 0 = a by omega]
  · rw [show max a 0 = 0 by omega]
    cases xs with
    | nil => rfl
    | cons x xs =>
      unfold allRun at h
      rw [Bool.and_eq_true] at h
      exact h.1
theorem keepsGo_eq {b r : Int} : ∀ {xs : List Int} {a : Int}, keepsGo b r a xs = (runGo b r (max a 0) xs && allRun b r xs)
  | [], _ => rfl
  | x :: xs, a => by
    have ih := keepsGo_eq (b := b) (r := r) (xs := xs) (a := max a 0 + x - r)
    unfold keepsGo
    rw [ih]
    cases hr : allRun b r xs with
    | false =>
      unfold allRun
      rw [hr]
      simp
    | true =>
      rw [runGo_max hr]
      unfold allRun
      rw [hr, Bool.and_true, Bool.and_true, Bool.eq_iff_iff]
      rw [show runGo b r (max a 0) (x :: xs) = (decide (max a 0 + x - r ≤ b) && runGo b r (max a 0 + x - r) xs) from rfl]
      rw [show runGo b r 0 (x :: xs) = (decide (0 + x - r ≤ b) && runGo b r (0 + x - r) xs) from rfl]
      simp only [Bool.and_eq_true, decide_eq_true_eq]
      refine ⟨fun h => ⟨h, by omega, runGo_mono (by omega) h.2⟩, fun h => h.1⟩
theorem keepsGo_zero {b r : Int} {xs : List Int} : keepsGo b r 0 xs = allRun b r xs := by
  rw [keepsGo_eq]
  cases xs with
  | nil => rfl
  | cons x xs =>
    rw [show max (0 : Int) 0 = 0 by omega]
    unfold allRun
    cases runGo b r 0 (x :: xs) <;> rfl
def keeps (b r : Int) (xs : List Int) : Bool × Int := if ((out20 b || out20 r) || wtr xs) = true then (false, 2) else (keepsGo b r 0 xs, 0)

/-- What a server serves in a unit; what then waits, and for how long. -/
def sv (l s q k x : Int) : Int := if l < k + 1 then min (q + x) s else 0
def sq (l s q k x : Int) : Int := q + x - sv l s q k x
def sk (l s q k x : Int) : Int := if sq l s q k x = 0 then 0 else k + 1
def srv (l s : Int) : Int → Int → List Int → List Int
  | _, _, [] => []
  | q, k, x :: xs => sv l s q k x :: srv l s (sq l s q k x) (sk l s q k x) xs
theorem srv_nil (l s q k : Int) : srv l s q k [] = [] := rfl
theorem srv_cons (l s q k x : Int) (xs : List Int) : srv l s q k (x :: xs) = sv l s q k x :: srv l s (sq l s q k x) (sk l s q k x) xs := rfl
theorem srv_length {l s : Int} : ∀ {xs : List Int} {q k : Int}, (srv l s q k xs).length = xs.length
  | [], _, _ => rfl
  | x :: xs, q, k => by unfold srv; rw [List.length_cons, List.length_cons, srv_length]
def serve (l s : Int) (xs : List Int) : List Int × Int := if ((out20 l || out20 s) || wtr xs) = true then ([], 2) else (srv l s 0 0 xs, 0)

theorem drop_next {xs : List Int} {i : Nat} {x : Int} (h : xs[i]? = some x) : xs.drop i = x :: xs.drop (i + 1) := by
  obtain ⟨hi, rfl⟩ := List.getElem?_eq_some_iff.1 h
  exact List.drop_eq_getElem_cons hi
/-- The state of a server before unit i. -/
structure Srv (l s : Int) (xs : List Int) (i : Nat) (q k : Int) (done : List Int) : Prop where
  eq : srv l s 0 0 xs = done ++ srv l s q k (xs.drop i)
  len : done.length = i
theorem Srv.start (l s : Int) (xs : List Int) : Srv l s xs 0 0 0 [] := ⟨rfl, rfl⟩
theorem Srv.next {l s : Int} {xs : List Int} {i : Nat} {q k : Int} {done : List Int} (h : Srv l s xs i q k done) {x : Int} (hx : xs[i]? = some x) :
    Srv l s xs (i + 1) (sq l s q k x) (sk l s q k x) (done ++ [sv l s q k x]) ∧ (srv l s 0 0 xs)[i]? = some (sv l s q k x) := by
  have e := h.eq
  rw [drop_next hx, srv_cons] at e
  refine ⟨⟨by rw [List.append_assoc]; exact e, by simp [h.len]⟩, ?_⟩
  rw [e, ← h.len, List.getElem?_append_right (Nat.le_refl _), Nat.sub_self]
  rfl
theorem Srv.last {l s : Int} {xs : List Int} {q k : Int} {done : List Int} (h : Srv l s xs xs.length q k done) : srv l s 0 0 xs = done := by
  have e := h.eq
  rw [List.drop_length, srv_nil] at e
  rwa [List.append_nil] at e

theorem sv_ge {l s q k x : Int} (hq : 0 ≤ q) (hx : 0 ≤ x) (hs : 0 ≤ s) : 0 ≤ sv l s q k x ∧ sv l s q k x ≤ q + x ∧ sv l s q k x ≤ s := by
  unfold sv
  split <;> omega
/-- What waits, by the arrivals of the time in which something has waited. -/
structure Inv (b r l s a q k : Int) : Prop where
  a1 : a ≤ b
  q0 : 0 ≤ q
  k0 : 0 ≤ k
  z : k = 0 → q = 0
  nz : q = 0 → k = 0
  p : 0 < k → q ≤ a + r * k - s * max 0 (k - l)
theorem Inv.start {b r l s : Int} (hb : 0 ≤ b) : Inv b r l s 0 0 0 := ⟨hb, by omega, by omega, fun _ => rfl, fun _ => rfl, fun h => by omega⟩
theorem Inv.step {b r l s a q k : Int} (h : Inv b r l s a q k) {x : Int} (hx : 0 ≤ x) (hs : 0 ≤ s) (hl : 0 ≤ l) (ha : max a 0 + x - r ≤ b) : Inv b r l s (max a 0 + x - r) (sq l s q k x) (sk l s q k x) := by
  obtain ⟨a1, q0, k0, hz, hnz, hp⟩ := h
  have hsv := sv_ge (l := l) (k := k) q0 hx hs
  have h1 : q + x ≤ max a 0 + x - r + r * (k + 1) - s * max 0 (k - l) := by
    rw [Int.mul_add, Int.mul_one]
    by_cases c : k = 0
    · subst c
      rw [hz rfl, Int.mul_zero, show max (0 : Int) (0 - l) = 0 by omega, Int.mul_zero]
      omega
    · have := hp (by omega)
      omega
  have hq2 : 0 ≤ sq l s q k x := by unfold sq; omega
  refine ⟨ha, hq2, ?_, ?_, ?_, ?_⟩
  · unfold sk; split <;> omega
  · unfold sk; split
    · intro; assumption
    · omega
  · intro e; unfold sk; rw [if_pos e]
  · unfold sk
    split
    · omega
    · rename_i hne
      intro _
      unfold sq at hne ⊢
      unfold sv at hne ⊢
      split
      · rename_i hk
        rw [if_pos hk] at hne
        rw [show min (q + x) s = s by omega, show max 0 (k + 1 - l) = max 0 (k - l) + 1 by omega, Int.mul_add s, Int.mul_one s]
        omega
      · rename_i hk
        rw [show max 0 (k + 1 - l) = max 0 (k - l) by omega]
        omega
theorem Inv.le_a {b r l s a q k : Int} (h : Inv b r l s a q k) (hr : 0 ≤ r) (hl : 0 ≤ l) (hrs : r ≤ s) : q ≤ max a 0 + r * l := by
  obtain ⟨a1, q0, k0, hz, hnz, hp⟩ := h
  have hrl := Int.mul_nonneg hr hl
  by_cases c : k = 0
  · rw [hz c]; omega
  · have hp := hp (by omega)
    by_cases ck : k ≤ l
    · rw [show max 0 (k - l) = 0 by omega, Int.mul_zero] at hp
      have := Int.mul_le_mul_of_nonneg_left ck hr
      omega
    · rw [show max 0 (k - l) = k - l by omega] at hp
      have h1 : r * (k - l) ≤ s * (k - l) := Int.mul_le_mul_of_nonneg_right hrs (by omega)
      rw [Int.mul_sub] at h1
      omega
theorem Inv.le_b {b r l s a q k : Int} (h : Inv b r l s a q k) (hb : 0 ≤ b) (hr : 0 ≤ r) (hl : 0 ≤ l) (hrs : r ≤ s) : q ≤ b + r * l := by
  have := h.le_a hr hl hrs
  have := h.a1
  have := Int.mul_nonneg hr hl
  omega
/-- What goes keeps a curve: with so much more burst. -/
theorem out_go {b r l s : Int} (hb : 0 ≤ b) (hr : 0 ≤ r) (hs : 0 ≤ s) (hl : 0 ≤ l) (hrs : r ≤ s) : ∀ {xs : List Int} {a q k o : Int}, Inv b r l s a q k → max o 0 + q ≤ max a 0 + r * l → (∀ x ∈ xs, 0 ≤ x) → keepsGo b r a xs = true → keepsGo (b + r * l) r o (srv l s q k xs) = true
  | [], _, _, _, _, _, _, _, _ => rfl
  | x :: xs, a, q, k, o, h, ho, hx, hk => by
    unfold keepsGo at hk
    rw [Bool.and_eq_true, decide_eq_true_eq] at hk
    have hi := h.step (hx x (by simp)) hs hl hk.1
    have hqa := hi.le_a hr hl hrs
    have hq0 := hi.q0
    have hrl := Int.mul_nonneg hr hl
    have hb1 := hk.1
    have key : max o 0 + sv l s q k x - r + sq l s q k x ≤ (max a 0 + x - r) + r * l := by unfold sq; omega
    unfold srv keepsGo
    rw [Bool.and_eq_true, decide_eq_true_eq]
    refine ⟨by omega, out_go hb hr hs hl hrs hi (by omega) (fun y hy => hx y (by simp [hy])) hk.2⟩

/-- So much goes in the next units, as long as something waits. -/
theorem drain {l s : Int} (hs : 0 ≤ s) (hl : 0 ≤ l) : ∀ (d : Nat) {xs : List Int} {q k : Int}, 0 < q → 1 ≤ k → (∀ x ∈ xs, 0 ≤ x) → d ≤ xs.length → min q (s * max 0 (k + d - l) - s * max 0 (k - l)) ≤ tot ((srv l s q k xs).take d)
  | 0, xs, q, k, _, _, _, _ => by
    rw [List.take_zero, show k + ((0 : Nat) : Int) - l = k - l by omega]
    rw [tot_nil]
    omega
  | d + 1, [], _, _, _, _, _, hd => by simp at hd
  | d + 1, x :: xs, q, k, hq, hk, hx, hd => by
    have hx0 := hx x (by simp)
    have hxs : ∀ y ∈ xs, 0 ≤ y := fun y hy => hx y (by simp [hy])
    have hd' : d ≤ xs.length := by simpa using hd
    have hsv := sv_ge (l := l) (k := k) (show 0 ≤ q by omega) hx0 hs
    have tailpos : ∀ (m : Nat) (ys : List Int) (u v : Int), 0 ≤ u → (∀ y ∈ ys, 0 ≤ y) → 0 ≤ tot ((srv l s u v ys).take m) := by
      intro m
      induction m with
      | zero => intro ys u v _ _; rw [List.take_zero, tot_nil]; omega
      | succ m ih =>
        intro ys u v hu hy
        cases ys with
        | nil => rw [srv_nil, List.take_nil, tot_nil]; omega
        | cons y ys =>
          have h1 := sv_ge (l := l) (k := v) hu (hy y (by simp)) hs
          have h2 := ih ys (sq l s u v y) (sk l s u v y) (by unfold sq; omega) (fun z hz => hy z (by simp [hz]))
          rw [srv_cons, List.take_succ_cons, tot_cons]
          omega
    rw [srv_cons, List.take_succ_cons, tot_cons]
    by_cases c : sq l s q k x = 0
    · have h2 := tailpos d xs (sq l s q k x) (sk l s q k x) (by omega) hxs
      unfold sq at c
      omega
    · have hpos : 0 < sq l s q k x := by unfold sq at c ⊢; omega
      have ih := drain hs hl d (xs := xs) (q := sq l s q k x) (k := k + 1) hpos (by omega) hxs hd'
      have e1 : sk l s q k x = k + 1 := by unfold sk; rw [if_neg c]
      rw [e1]
      rw [show k + 1 + (d : Int) - l = k + ((d + 1 : Nat) : Int) - l by omega] at ih
      generalize s * max 0 (k + ((d + 1 : Nat) : Int) - l) = P at *
      generalize tot (List.take d (srv l s (sq l s q k x) (k + 1) xs)) = T at *
      unfold sq at ih c hpos
      unfold sv at ih c hpos ⊢
      by_cases hk2 : l < k + 1
      · rw [if_pos hk2] at ih c hpos ⊢
        rw [show max 0 (k + 1 - l) = max 0 (k - l) + 1 by omega, Int.mul_add, Int.mul_one] at ih
        rw [show min (q + x) s = s by omega] at ih ⊢
        omega
      · rw [if_neg hk2] at ih c hpos ⊢
        rw [show max 0 (k + 1 - l) = max 0 (k - l) by omega] at ih
        omega
end Go.Proofs.Ytdlmiiekcpbdcaa
