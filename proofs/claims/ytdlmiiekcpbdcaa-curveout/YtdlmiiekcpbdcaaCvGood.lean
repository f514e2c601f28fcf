/- A flow that conforms, and its server: what the three laws over traces share. -/
import Derived.Test.YtdlmiiekcpbdcaaCv7
namespace Go.Proofs.Ytdlmiiekcpbdcaa
open Go.RowKit Go.Maps

/-- Everything is in bounds, the server is fast enough, and what comes keeps the curve. -/
structure Good (b r l s : Int) (xs : List Int) : Prop where
  f : wrong4 b r l s = false
  rs : r ≤ s
  t : wtr xs = false
  go : keepsGo b r 0 xs = true
  dl : (delay b r l s).2 = 0
theorem good_of {b r l s : Int} {xs : List Int} (h0 : (delay b r l s).2 = 0) (h1 : keeps b r xs = (true, 0)) : Good b r l s xs := by
  have hd := delay_ok h0
  unfold keeps at h1
  have hf := wrong4_false.1 hd.1
  have hbr : (out20 b || out20 r) = false := by rw [out20_false.2 hf.1, out20_false.2 hf.2.1]; rfl
  rw [hbr, Bool.false_or] at h1
  cases ht : wtr xs with
  | true => rw [ht, if_pos rfl] at h1; cases h1
  | false =>
    rw [ht, if_neg (by decide)] at h1
    injection h1 with h1 _
    exact ⟨hd.1, hd.2, ht, h1, h0⟩
theorem backlog_ok {b r l s : Int} (h : (backlog b r l s).2 = 0) : (delay b r l s).2 = 0 ∧ (backlog b r l s).1 = b + r * l := by
  unfold backlog at h ⊢
  by_cases c : (delay b r l s).2 = 0
  · rw [if_pos c]; exact ⟨c, rfl⟩
  · rw [if_neg c] at h; exact absurd h c
theorem Good.serve {b r l s : Int} {xs : List Int} (h : Good b r l s xs) : serve l s xs = (srv l s 0 0 xs, 0) := by
  have hf := wrong4_false.1 h.f
  have hls : (out20 l || out20 s) = false := by rw [out20_false.2 hf.2.2.1, out20_false.2 hf.2.2.2]; rfl
  show (if ((out20 l || out20 s) || wtr xs) = true then ([], 2) else (srv l s 0 0 xs, 0)) = _
  rw [hls, h.t]
  rfl
/-- What holds before unit i. -/
structure Now (b r l s : Int) (xs : List Int) (i : Nat) (q : Int) : Prop where
  st : ∃ k a done, Srv l s xs i q k done ∧ Inv b r l s a q k ∧ keepsGo b r a (xs.drop i) = true
theorem Good.now {b r l s : Int} {xs : List Int} (h : Good b r l s xs) : Now b r l s xs 0 0 := ⟨⟨0, 0, [], Srv.start l s xs, Inv.start (wrong4_false.1 h.f).1.1, h.go⟩⟩
theorem Now.bound {b r l s : Int} {xs : List Int} {i : Nat} {q : Int} (h : Now b r l s xs i q) (g : Good b r l s xs) : 0 ≤ q ∧ q ≤ b + r * l := by
  obtain ⟨k, a, done, _, hi, _⟩ := h.st
  have hf := wrong4_false.1 g.f
  exact ⟨hi.q0, hi.le_b hf.1.1 hf.2.1.1 hf.2.2.1.1 g.rs⟩
theorem Now.next {b r l s : Int} {xs : List Int} {i : Nat} {q : Int} (h : Now b r l s xs i q) (g : Good b r l s xs) {x : Int} (hx : xs[i]? = some x) :
    ∃ y, (srv l s 0 0 xs)[i]? = some y ∧ Now b r l s xs (i + 1) (q + x - y) ∧ (0 ≤ x ∧ x ≤ 1048576) ∧ 0 ≤ y ∧ y ≤ 1048576 := by
  obtain ⟨k, a, done, hs, hi, hk⟩ := h.st
  have hf := wrong4_false.1 g.f
  have hx2 := (wtr_false.1 g.t).2 x (List.mem_of_getElem? hx)
  rw [drop_next hx] at hk
  unfold keepsGo at hk
  rw [Bool.and_eq_true, decide_eq_true_eq] at hk
  have hn := hs.next hx
  have hst := hi.step hx2.1 hf.2.2.2.1 hf.2.2.1.1 hk.1
  have hv := sv_ge (l := l) (k := k) hi.q0 hx2.1 hf.2.2.2.1
  exact ⟨sv l s q k x, hn.2, ⟨⟨_, _, _, hn.1, hst, hk.2⟩⟩, hx2, by omega, by omega⟩
end Go.Proofs.Ytdlmiiekcpbdcaa
