/- No more is green than was committed: plain. -/
import Derived.Test.YtnbjcahhmibmdaaMtRun
namespace Go.Proofs.Ytnbjcahhmibmdaa

theorem run_append (b : Mt) (xs ys : List (Int × Int)) : run b (xs ++ ys) = ((run b xs).1 ++ (run (run b xs).2 ys).1, (run (run b xs).2 ys).2) := by
  unfold run
  rw [List.foldl_append]
  exact run_from _ _
theorem run_get {b : Mt} {xs : List (Int × Int)} {k : Nat} {x : Int × Int} (h : xs[k]? = some x) : (run b xs).1[k]? = some ((run b (xs.take k)).2.colour x.1 x.2 1).2.1 := by
  have hk := (List.getElem?_eq_some_iff.1 h).1
  have e : xs = xs.take (k + 1) ++ xs.drop (k + 1) := (List.take_append_drop _ _).symm
  conv => lhs; rw [e]
  rw [run_append, run_next h]
  unfold shotAct
  dsimp only
  rw [List.append_assoc, List.getElem?_append_right (by rw [run_length, List.length_take]; omega), run_length, List.length_take]
  rw [show k - min k xs.length = 0 by omega]
  rfl
theorem fine_take {b : Mt} {xs : List (Int × Int)} (h : fine b xs = true) (k : Nat) : fine b (xs.take k) = true := by
  cases c : fine b (xs.take k) with
  | true => rfl
  | false => rw [fine_stop c] at h; cases h
def gr (c n : Int) : Int := if c = 1 then n else 0
def ye (c n : Int) : Int := if c = 3 then 0 else n
/-- What shot k takes out of the first bucket, or out of both. -/
def got (f : Int → Int → Int) (l : List Int) (xs : List (Int × Int)) (k : Nat) : Int := match l[k]?, xs[k]? with | some c, some x => f c x.2 | _, _ => 0
def gotS (f : Int → Int → Int) (l : List Int) (xs : List (Int × Int)) (i : Nat) : Nat → Int
  | 0 => 0
  | d + 1 => gotS f l xs i d + got f l xs (i + d)
def atK (b : Mt) (xs : List (Int × Int)) (k : Nat) : Mt := (run b (xs.take k)).2
theorem mark_takes (b : Mt) (n had : Int) : gr (b.mark n had).2 n + (b.mark n had).1.fst = b.fst ∧ ye (b.mark n had).2 n + (b.mark n had).1.fst + (b.mark n had).1.snd = b.fst + b.snd ∧
    (b.mark n had).1.rate = b.rate ∧ (b.mark n had).1.burst = b.burst ∧ (b.mark n had).1.exc = b.exc ∧ ((b.mark n had).2 = 1 ∨ (b.mark n had).2 = 2 ∨ (b.mark n had).2 = 3) := by
  unfold Mt.mark gr ye
  (repeat' split) <;> simp_all <;> omega
theorem fill_brings {b : Mt} (h : b.Ok) {t : Int} (h0 : b.tm ≤ t) (h1 : t ≤ 1099511627776) : (b.fill t).fst ≤ b.fst + b.come t ∧ (b.fill t).fst + (b.fill t).snd ≤ b.fst + b.snd + b.come t ∧ (b.fill t).fst ≤ b.burst ∧ (b.fill t).fst + (b.fill t).snd ≤ b.burst + b.exc := by
  have f0 := h.f0; have f1 := h.f1; have s0 := h.s0; have s1 := h.s1
  have c0 := (h.come h0 h1).1
  have e1 : (b.fill t).fst = b.fst + min (b.come t) (b.burst - b.fst) := rfl
  have e2 : (b.fill t).snd = b.snd + min (b.come t - min (b.come t) (b.burst - b.fst)) (b.exc - b.snd) := rfl
  rw [e1, e2]
  omega
/-- A shot: what it takes, and what is left. -/
structure Step (b : Mt) (xs : List (Int × Int)) (k : Nat) (x : Int × Int) (c : Int) : Prop where
  n0 : 0 ≤ x.2
  n1 : x.2 ≤ 1048576
  t1 : x.1 ≤ 1099511627776
  t0 : (atK b xs k).tm ≤ x.1
  tm : (atK b xs (k + 1)).tm = x.1
  rate : (atK b xs (k + 1)).rate = (atK b xs k).rate
  burst : (atK b xs (k + 1)).burst = (atK b xs k).burst
  exc : (atK b xs (k + 1)).exc = (atK b xs k).exc
  col : (run b xs).1[k]? = some c
  cs : c = 1 ∨ c = 2 ∨ c = 3
  gr : gr c x.2 + (atK b xs (k + 1)).fst = ((atK b xs k).fill x.1).fst
  ye : ye c x.2 + (atK b xs (k + 1)).fst + (atK b xs (k + 1)).snd = ((atK b xs k).fill x.1).fst + ((atK b xs k).fill x.1).snd
  ok : (atK b xs k).Ok
  ok' : (atK b xs (k + 1)).Ok
theorem step_one {b : Mt} (h : b.Ok) {xs : List (Int × Int)} (hf : fine b xs = true) {k : Nat} {x : Int × Int} (hx : xs[k]? = some x) : ∃ c, Step b xs k x c := by
  have hok := fine_ok h (fine_take hf k)
  have hn := fine_next hx (fine_take hf k)
  rw [fine_take hf (k + 1)] at hn
  have hr : atK b xs (k + 1) = ((atK b xs k).colour x.1 x.2 1).1 := by
    unfold atK
    rw [run_next hx]
    rfl
  have hg := run_get (b := b) hx
  rcases colour_ok hok x.1 x.2 with ⟨⟨k1, k2, k3, k4⟩, k5, k6⟩ | k5
  · obtain ⟨a1, a2, a3, a4, a5, a6⟩ := mark_takes ((atK b xs k).fill x.1) x.2 1
    have e : atK b xs (k + 1) = (((atK b xs k).fill x.1).mark x.2 1).1 := by rw [hr]; exact congrArg Prod.fst k5
    refine ⟨(((atK b xs k).fill x.1).mark x.2 1).2, k3, k4, k2, k1, ?_, ?_, ?_, ?_, ?_, a6, ?_, ?_, hok, ?_⟩
    · rw [e]; exact ((hok.fill k1 k2).mark k3).2
    · rw [e]; exact a3
    · rw [e]; exact a4
    · rw [e]; exact a5
    · rw [hg, k5]; rfl
    · rw [e]; exact a1
    · rw [e]; exact a2
    · rw [e]; exact k6
  · rw [k5] at hn
    exact absurd hn (by decide)
theorem run_same {b : Mt} (h : b.Ok) {xs : List (Int × Int)} (hf : fine b xs = true) (k : Nat) : (atK b xs k).rate = b.rate ∧ (atK b xs k).burst = b.burst ∧ (atK b xs k).exc = b.exc := by
  induction k with
  | zero => exact ⟨rfl, rfl, rfl⟩
  | succ k ih =>
    cases hx : xs[k]? with
    | none =>
      have : atK b xs (k + 1) = atK b xs k := by
        have := List.getElem?_eq_none_iff.1 hx
        unfold atK
        rw [List.take_of_length_le (by omega), List.take_of_length_le this]
      rw [this]
      exact ih
    | some x =>
      obtain ⟨c, s⟩ := step_one h hf hx
      exact ⟨s.rate.trans ih.1, s.burst.trans ih.2.1, s.exc.trans ih.2.2⟩
theorem got_at {f : Int → Int → Int} {l : List Int} {xs : List (Int × Int)} {k : Nat} {c : Int} {x : Int × Int} (h : l[k]? = some c) (hx : xs[k]? = some x) : got f l xs k = f c x.2 := by unfold got; rw [h, hx]
theorem bound_all {b : Mt} (h : b.Ok) {xs : List (Int × Int)} (hf : fine b xs = true) {i d : Nat} {x y : Int × Int} (hx : xs[i]? = some x) (hy : xs[i + d]? = some y) :
    gotS gr (run b xs).1 xs i (d + 1) + (atK b xs (i + d + 1)).fst ≤ b.burst + b.rate * (y.1 - x.1) ∧
    gotS ye (run b xs).1 xs i (d + 1) + (atK b xs (i + d + 1)).fst + (atK b xs (i + d + 1)).snd ≤ b.burst + b.exc + b.rate * (y.1 - x.1) ∧ x.1 ≤ y.1 := by
  induction d generalizing y with
  | zero =>
    rw [Nat.add_zero] at hy
    rw [hx] at hy
    injection hy with hy
    subst hy
    obtain ⟨c, s⟩ := step_one h hf hx
    obtain ⟨e1, e2, e3⟩ := run_same h hf i
    obtain ⟨_, _, g3, g4⟩ := fill_brings s.ok s.t0 s.t1
    have a1 := s.gr
    have a2 := s.ye
    rw [e2] at g3 g4
    rw [e3] at g4
    simp only [gotS, Nat.add_zero, Int.zero_add, Int.sub_self, Int.mul_zero]
    rw [got_at s.col hx, got_at s.col hx]
    omega
  | succ d ih =>
    have hd : i + d < xs.length := by have := (List.getElem?_eq_some_iff.1 hy).1; omega
    obtain ⟨i1, i2, i3⟩ := ih (List.getElem?_eq_getElem hd)
    obtain ⟨c0, s0⟩ := step_one h hf (List.getElem?_eq_getElem hd)
    have hy' : xs[i + d + 1]? = some y := hy
    obtain ⟨c, s⟩ := step_one h hf hy'
    obtain ⟨e1, e2, e3⟩ := run_same h hf (i + d + 1)
    obtain ⟨g1, g2, _, _⟩ := fill_brings s.ok s.t0 s.t1
    have t2 := s.t0
    have a1 := s.gr
    have a2 := s.ye
    have hc : (atK b xs (i + d + 1)).come y.1 = b.rate * (y.1 - xs[i + d].1) := by
      unfold Mt.come
      rw [e1, s0.tm]
    rw [hc] at g1 g2
    rw [s0.tm] at t2
    have em : b.rate * (y.1 - x.1) = b.rate * (xs[i + d].1 - x.1) + b.rate * (y.1 - xs[i + d].1) := by rw [← Int.mul_add]; congr 1; omega
    have eg : ∀ f, gotS f (run b xs).1 xs i (d + 1 + 1) = gotS f (run b xs).1 xs i (d + 1) + got f (run b xs).1 xs (i + d + 1) := fun _ => rfl
    rw [eg, eg, got_at s.col hy', got_at s.col hy', em, show i + (d + 1) + 1 = i + d + 1 + 1 by omega]
    omega
theorem small_f {c n : Int} (h0 : 0 ≤ n) (h1 : n ≤ 1048576) : (0 ≤ gr c n ∧ gr c n ≤ 1048576) ∧ 0 ≤ ye c n ∧ ye c n ≤ 1048576 := by
  unfold gr ye
  (repeat' split) <;> omega
theorem gotS_bound {b : Mt} (h : b.Ok) {xs : List (Int × Int)} (hf : fine b xs = true) {f : Int → Int → Int} (hff : ∀ c n, 0 ≤ n → n ≤ 1048576 → 0 ≤ f c n ∧ f c n ≤ 1048576) (i d : Nat) : 0 ≤ gotS f (run b xs).1 xs i d ∧ gotS f (run b xs).1 xs i d ≤ 1048576 * (d : Int) := by
  induction d with
  | zero => simp [gotS]
  | succ d ih =>
    have : 0 ≤ got f (run b xs).1 xs (i + d) ∧ got f (run b xs).1 xs (i + d) ≤ 1048576 := by
      cases hx : xs[i + d]? with
      | none => unfold got; rw [hx]; cases (run b xs).1[i + d]? with | none => simp | some v => simp
      | some x =>
        obtain ⟨c, s⟩ := step_one h hf hx
        rw [got_at s.col hx]
        exact hff c x.2 s.n0 s.n1
    simp only [gotS]
    omega
theorem played_ok {r b e : Int} {xs : List (Int × Int)} (h : (played r b e xs).2.2 = 0) : (Mt.full r b e).Ok ∧ fine (Mt.full r b e) xs = true ∧ played r b e xs = ((run (Mt.full r b e) xs).1, (run (Mt.full r b e) xs).2, 0) := by
  revert h
  unfold played
  split
  · next hr =>
    split
    · next hf => exact fun _ => ⟨Mt.right_iff.1 hr, hf, rfl⟩
    · intro h; cases h
  · intro h; cases h
theorem played_no {r b e : Int} {xs : List (Int × Int)} (h : (played r b e xs).2.2 ≠ 0) : (played r b e xs).1 = [] := by
  revert h
  unfold played
  (repeat' split) <;> (intro h; first | rfl | (exact absurd rfl h))
/-- Between two shots of a row that is played. -/
structure Between (r b e : Int) (l : List Int) (xs : List (Int × Int)) (i j : Nat) (ti tj nj c : Int) : Prop where
  col : l[j]? = some c
  cs : c = 1 ∨ c = 2 ∨ c = 3
  n0 : 0 ≤ nj
  n1 : nj ≤ 1048576
  tt : ti ≤ tj
  t0 : 0 ≤ ti
  t1 : tj ≤ 1099511627776
  g0 : 0 ≤ gotS gr l xs i (j - i)
  g1 : gotS gr l xs i (j - i) ≤ 1048576 * ((j - i : Nat) : Int)
  y0 : 0 ≤ gotS ye l xs i (j - i)
  y1 : gotS ye l xs i (j - i) ≤ 1048576 * ((j - i : Nat) : Int)
  gs : gotS gr l xs i (j + 1 - i) = gotS gr l xs i (j - i) + gr c nj
  ys : gotS ye l xs i (j + 1 - i) = gotS ye l xs i (j - i) + ye c nj
  gb : gotS gr l xs i (j + 1 - i) ≤ b + r * (tj - ti)
  yb : gotS ye l xs i (j + 1 - i) ≤ b + e + r * (tj - ti)
theorem bound_at {r b e : Int} (hok : (Mt.full r b e).Ok) {xs : List (Int × Int)} (hf : fine (Mt.full r b e) xs = true) {i j : Nat} (hij : i ≤ j) {ti ni tj nj : Int} (hx : xs[i]? = some (ti, ni)) (hy : xs[j]? = some (tj, nj)) :
    ∃ c, Between r b e (run (Mt.full r b e) xs).1 xs i j ti tj nj c := by
  obtain ⟨d, rfl⟩ : ∃ d, j = i + d := ⟨j - i, by omega⟩
  obtain ⟨c, s⟩ := step_one hok hf hy
  obtain ⟨b1, b2, b3⟩ := bound_all hok hf hx hy
  obtain ⟨_, si⟩ := step_one hok hf hx
  have h3 := gotS_bound hok hf (f := gr) (fun c n h0 h1 => (small_f (c := c) h0 h1).1) i d
  have h4 := gotS_bound hok hf (f := ye) (fun c n h0 h1 => (small_f (c := c) h0 h1).2) i d
  have k7 := si.ok.t0
  have k8 := si.t0
  have k9 := s.ok'.f0
  have k10 := s.ok'.s0
  have e1 : (Mt.full r b e).rate = r := rfl
  have e2 : (Mt.full r b e).burst = b := rfl
  have e3 : (Mt.full r b e).exc = e := rfl
  have eg : ∀ f, gotS f (run (Mt.full r b e) xs).1 xs i (d + 1) = gotS f (run (Mt.full r b e) xs).1 xs i d + got f (run (Mt.full r b e) xs).1 xs (i + d) := fun _ => rfl
  rw [e1, e2] at b1
  rw [e1, e2, e3] at b2
  dsimp only at b1 b2 b3 k8
  refine ⟨c, s.col, s.cs, s.n0, s.n1, b3, by omega, s.t1, ?_, ?_, ?_, ?_, ?_, ?_, ?_, ?_⟩ <;> (try rw [show i + d + 1 - i = d + 1 by omega]) <;> (try rw [show i + d - i = d by omega])
  · exact h3.1
  · exact h3.2
  · exact h4.1
  · exact h4.2
  · rw [eg, got_at s.col hy]
  · rw [eg, got_at s.col hy]
  · omega
  · omega
end Go.Proofs.Ytnbjcahhmibmdaa
