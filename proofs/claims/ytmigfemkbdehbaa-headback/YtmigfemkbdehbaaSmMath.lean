/- The Internet checksum, plain: sums of words, their fold, and what a turned byte does to them. No program is met here. -/
import Derived.Test.YtmigfemkbdehbaaRows
namespace Go.Proofs.Ytmigfemkbdehbaa

def Byte (x : Int) : Prop := 0 ≤ x ∧ x < 256
def Half (x : Int) : Prop := 0 ≤ x ∧ x < 65536
def Bytes (bs : List Int) : Prop := ∀ x ∈ bs, Byte x
/-- What the byte at place i counts for. -/
def wt (i : Nat) : Int := if i % 2 = 0 then 256 else 1
/-- The sum of the words of bytes that begin at place i. -/
def tot : Nat → List Int → Int
  | _, [] => 0
  | i, b :: bs => wt i * b + tot (i + 1) bs
/-- A number folded. -/
def fd (s : Int) : Int := if s = 0 then 0 else (s - 1) % 65535 + 1

theorem wt_two (i : Nat) : wt i = 256 ∧ i % 2 = 0 ∨ wt i = 1 ∧ i % 2 = 1 := by
  unfold wt
  split
  · exact .inl ⟨rfl, by assumption⟩
  · exact .inr ⟨rfl, by omega⟩
theorem tot_append (i : Nat) (xs ys : List Int) : tot i (xs ++ ys) = tot i xs + tot (i + xs.length) ys := by
  induction xs generalizing i with
  | nil => simp [tot]
  | cons x xs ih =>
    simp only [List.cons_append, tot, List.length_cons, ih]
    rw [show i + 1 + xs.length = i + (xs.length + 1) by omega]
    omega
theorem tot_parity (xs : List Int) (i j : Nat) (h : i % 2 = j % 2) : tot i xs = tot j xs := by
  induction xs generalizing i j with
  | nil => rfl
  | cons x xs ih =>
    simp only [tot]
    rw [ih (i + 1) (j + 1) (by omega)]
    unfold wt
    rw [h]
theorem tot_bound {bs : List Int} (h : Bytes bs) (i : Nat) : 0 ≤ tot i bs ∧ tot i bs ≤ 65280 * bs.length := by
  induction bs generalizing i with
  | nil => simp [tot]
  | cons x xs ih =>
    obtain ⟨a, b⟩ := ih (fun y hy => h y (List.mem_cons_of_mem _ hy)) (i + 1)
    obtain ⟨c, d⟩ := h x List.mem_cons_self
    simp only [tot, List.length_cons]
    rcases wt_two i with ⟨e, _⟩ | ⟨e, _⟩ <;> rw [e] <;> omega
theorem tot_next {bs : List Int} {i : Nat} {x : Int} (h : bs[i]? = some x) : tot 0 (bs.take (i + 1)) = tot 0 (bs.take i) + wt i * x := by
  have hi : i < bs.length := by
    rcases Nat.lt_or_ge i bs.length with h1 | h1
    · exact h1
    · rw [List.getElem?_eq_none h1] at h; cases h
  rw [List.take_add_one, h, tot_append]
  simp [tot, Nat.min_eq_left (Nat.le_of_lt hi)]
theorem Bytes.take {bs : List Int} (h : Bytes bs) (n : Nat) : Bytes (bs.take n) := fun x hx => h x (List.mem_of_mem_take hx)
theorem Bytes.append {xs ys : List Int} (h : Bytes xs) (k : Bytes ys) : Bytes (xs ++ ys) := fun x hx => by
  rcases List.mem_append.1 hx with h1 | h1
  · exact h x h1
  · exact k x h1
theorem Bytes.at {bs : List Int} (h : Bytes bs) {i : Nat} {x : Int} (hx : bs[i]? = some x) : Byte x := h x (List.mem_of_getElem? hx)
theorem Bytes.set {bs : List Int} (h : Bytes bs) (i : Nat) {y : Int} (hy : Byte y) : Bytes (bs.set i y) := fun x hx => by
  rcases List.mem_or_eq_of_mem_set hx with h1 | h1
  · exact h x h1
  · exact h1 ▸ hy
theorem tot_set (bs : List Int) (i j : Nat) {x : Int} (h : bs[i]? = some x) (y : Int) : tot j (bs.set i y) = tot j bs + wt (j + i) * (y - x) := by
  induction bs generalizing i j with
  | nil => cases h
  | cons b bs ih =>
    cases i with
    | zero =>
      simp only [List.getElem?_cons_zero, Option.some.injEq] at h
      subst h
      simp only [List.set_cons_zero, tot, Nat.add_zero]
      rcases wt_two j with ⟨e, _⟩ | ⟨e, _⟩ <;> rw [e] <;> omega
    | succ i =>
      rw [List.getElem?_cons_succ] at h
      simp only [List.set_cons_succ, tot, ih i (j + 1) h]
      rw [show j + 1 + i = j + (i + 1) by omega]
      omega

/-! ### the fold -/
theorem fd_small {s : Int} (h0 : 0 ≤ s) (h1 : s < 65536) : fd s = s := by unfold fd; split <;> omega
theorem fd_step {s : Int} (h0 : 65535 < s) : fd (s / 65536 + s % 65536) = fd s := by unfold fd; split <;> split <;> omega
theorem fd_half {s : Int} (_h0 : 0 ≤ s) : Half (fd s) := by unfold fd Half; split <;> omega
theorem fd_fd {x y : Int} (hx : 0 ≤ x) (hy : 0 ≤ y) : fd (fd x + y) = fd (x + y) := by unfold fd; (repeat' split) <;> omega
theorem fd_fd' {x y : Int} (hx : 0 ≤ x) (hy : 0 ≤ y) : fd (x + fd y) = fd (x + y) := by rw [Int.add_comm x, fd_fd hy hx, Int.add_comm]
/-- The same number, its nought in two ways. -/
abbrev Alike (a b : Int) : Prop := a = b ∨ ((a = 0 ∨ a = 65535) ∧ (b = 0 ∨ b = 65535))
theorem check_all {s : Int} (h0 : 0 ≤ s) : fd (s + (65535 - fd s)) = 65535 := by unfold fd; (repeat' split) <;> omega
theorem turned_seen {s k x y : Int} (hs : fd s = 65535) (h0 : 0 ≤ s) (hk : k = 256 ∨ k = 1) (hx : Byte x) (hy : Byte y) (hne : x ≠ y) (hn : 0 ≤ s + k * (y - x)) : fd (s + k * (y - x)) ≠ 65535 := by
  obtain ⟨x0, x1⟩ := hx
  obtain ⟨y0, y1⟩ := hy
  rcases hk with rfl | rfl <;> (unfold fd at hs ⊢; split at hs <;> split <;> omega)
theorem turn_alike {s was now : Int} (hs : 0 ≤ s) (h0 : Half was) (h1 : Half now) (hn : 0 ≤ s - was + now) : Alike (65535 - fd (fd ((65535 - (65535 - fd s)) + (65535 - was)) + now)) (65535 - fd (s - was + now)) := by
  obtain ⟨a0, a1⟩ := h0
  obtain ⟨b0, b1⟩ := h1
  have hf := fd_half hs
  obtain ⟨f0, f1⟩ := hf
  rw [show (65535 : Int) - (65535 - fd s) = fd s by omega, fd_fd (by omega) b0]
  have e : fd (fd s + (65535 - was) + now) = fd (s + (65535 - was + now)) := by rw [Int.add_assoc, fd_fd hs (by omega)]
  rw [e]
  unfold Alike fd
  (repeat' split) <;> omega
theorem add_self {a : Int} (_h : Half a) : fd (a + (65535 - a)) = 65535 := by
  rw [show a + (65535 - a) = 65535 by omega]; rfl
theorem dadd {a b : Int} (ha : Half a) (hb : Half b) : fd (a + b) = if 65535 < a + b then a + b - 65535 else a + b := by
  obtain ⟨a0, a1⟩ := ha
  obtain ⟨b0, b1⟩ := hb
  unfold fd
  (repeat' split) <;> omega
end Go.Proofs.Ytmigfemkbdehbaa
