/- (*queue).sink moves an item down as far as it has to go; (*queue).settle restores the heap. -/
import Derived.Test.YtbckppflfgdblaaHp3
namespace Go.Proofs.Ytbckppflfgdblaa
open Go.RowKit Go.Maps

/-- Of k's children those below c have been looked at: fst is the first of them and of k. -/
def SinkIn (f : Nat → It) (n k fst c : Nat) : Prop :=
  2 * k + 1 ≤ c ∧ c ≤ 2 * k + 3 ∧ fst < n ∧ (fst = k ∨ (par fst = k ∧ 0 < fst ∧ Bef (f fst) (f k))) ∧ (∀ j, 0 < j → j < n → j < c → par j = k → ¬ Bef (f j) (f fst)) ∧ ¬ Bef (f k) (f fst)
theorem SinkIn.start (f : Nat → It) {n k : Nat} (hk : k < n) : SinkIn f n k k (2 * k + 1) :=
  ⟨Nat.le_refl _, by omega, hk, .inl rfl, fun j j0 _ j2 jp => by unfold par at jp; omega, Bef.irrefl _⟩
theorem SinkIn.stay {f : Nat → It} {n k fst c : Nat} (h : SinkIn f n k fst c) (hc : c ≤ 2 * k + 2) (hb : ¬ Bef (f c) (f fst)) : SinkIn f n k fst (c + 1) := by
  obtain ⟨h1, h2, h3, h4, h5, h6⟩ := h
  refine ⟨by omega, by omega, h3, h4, fun j j0 jn jc jp => ?_, h6⟩
  by_cases e : j = c
  · rw [e]; exact hb
  · exact h5 j j0 jn (by omega) jp
theorem SinkIn.take {f : Nat → It} {n k fst c : Nat} (h : SinkIn f n k fst c) (hc : c ≤ 2 * k + 2) (hn : c < n) (hb : Bef (f c) (f fst)) : SinkIn f n k c (c + 1) := by
  obtain ⟨h1, h2, h3, h4, h5, h6⟩ := h
  have hck : Bef (f c) (f k) := by
    rcases h4 with rfl | ⟨_, _, h4⟩
    · exact hb
    · exact hb.trans h4
  refine ⟨by omega, by omega, hn, .inr ⟨by unfold par; omega, by omega, hck⟩, fun j j0 jn jc jp => ?_, hck.asymm⟩
  by_cases e : j = c
  · rw [e]; exact Bef.irrefl _
  · exact fun hx => h5 j j0 jn (by omega) jp (hx.trans hb)
theorem SinkIn.all {f : Nat → It} {n k fst c : Nat} (h : SinkIn f n k fst c) (hc : ¬ (c ≤ 2 * k + 2 ∧ c < n)) : ∀ j, 0 < j → j < n → par j = k → ¬ Bef (f j) (f fst) := by
  intro j j0 jn jp
  refine h.2.2.2.2.1 j j0 jn ?_ jp
  unfold par at jp
  omega

def Sunk (q g m cap n : Nat) (P : Value) (M : Held) (w : World) (k : Nat) (f : Nat → It) (w' : World) : Prop :=
  k < n ∧ QH w' q g m cap n P f ∧ HB f n k ∧ Up f k ∧ Rep f n M ∧ Chg (fun k => k = g ∨ k = m) w w'
/-- Behind settle: a heap. -/
def Settled (q g m cap n : Nat) (P : Value) (M : Held) (w : World) (e : Ending) (w' : World) : Prop :=
  e = .returned (.tuple #[]) ∧ ∃ f, QH w' q g m cap n P f ∧ Heap f n ∧ Rep f n M ∧ Chg (fun k => k = g ∨ k = m) w w'
theorem sunk_done {q g m cap n : Nat} {P : Value} {M : Held} {w w' : World} {k c : Nat} {f : Nat → It} (h : Sunk q g m cap n P M w k f w') (hs : SinkIn f n k k c) (hc : ¬ (c ≤ 2 * k + 2 ∧ c < n)) : Settled q g m cap n P M w (.returned (.tuple #[])) w' :=
  ⟨rfl, f, h.2.1, h.2.2.1.done h.2.2.2.1 (hs.all hc), h.2.2.2.2.1, h.2.2.2.2.2⟩
theorem sunk_below {q g m cap n : Nat} {P : Value} {M : Held} {w w' w1 : World} {k : Nat} {f : Nat → It} (h : Sunk q g m cap n P M w k f w') (hb : Below w'.heap.size w' w1) : Sunk q g m cap n P M w k f w1 :=
  ⟨h.1, h.2.1.below hb, h.2.2.1, h.2.2.2.1, h.2.2.2.2.1, h.2.2.2.2.2.trans (Chg.of_below hb _)⟩
theorem sunk_next {q g m cap n : Nat} {P : Value} {M : Held} {w w' w1 : World} {k fst c : Nat} {f : Nat → It} (h : Sunk q g m cap n P M w k f w') (hs : SinkIn f n k fst c) (hc : ¬ (c ≤ 2 * k + 2 ∧ c < n)) (hne : fst ≠ k)
    (h2 : QH w1 q g m cap n P (swp f k fst) ∧ Chg (fun k => k = g ∨ k = m) w' w1) : k < fst ∧ Sunk q g m cap n P M w fst (swp f k fst) w1 := by
  obtain ⟨e, h4⟩ | ⟨hp, h0, hb⟩ := (hs.2.2.2.1).imp_left (fun e => And.intro e hne)
  · exact absurd e h4
  · obtain ⟨a, b⟩ := h.2.2.1.down h0 hs.2.2.1 hp hb (hs.all hc)
    have := par_lt h0
    exact ⟨by omega, hs.2.2.1, h2.1, a, b, h.2.2.2.2.1.swp h.1 hs.2.2.1, h.2.2.2.2.2.trans h2.2⟩

set_option maxHeartbeats 2000000 in
theorem sink_any {w : World} {q g m cap n : Nat} {P : Value} {f : Nat → It} {M : Held} (h : QH w q g m cap n P f) {k : Nat} (hk : k < n) (hb : HB f n k) (hu : Up f k) (hr : Rep f n M) :
    Calls Try.prog 57 #[.pointer (some ⟨q, 0, none⟩), .int .i64 (k : Int)] w (Settled q g m cap n P M w) := by
  have hst : Sunk q g m cap n P M w k f w := ⟨hk, h, hb, hu, hr, Chg.refl _ _⟩
  have hn := h.nmax
  clear h hb hr hu
  go_enter Try.func57, Try.ntmps57
  go_wp2
  go_loopw [1] (fun a wr => ∃ (k : Nat) (f : Nat → It), a = .int .i64 (k : Int) ∧ k < n ∧ Sunk q g m cap n P M w k f wr) (fun a _ => n - (intOf a).toNat)
  case atStart => exact ⟨k, f, rfl, hk, hst⟩
  case round =>
    clear hst hk
    obtain ⟨k, f, rfl, hk, hs⟩ := hrel
    go_wp2
    go_loopw [4, 5] (fun a b wr => ∃ (fst c : Nat), a = .int .i64 (fst : Int) ∧ b = .int .i64 (c : Int) ∧ c ≤ 2 * k + 3 ∧ fst < n ∧ SinkIn f n k fst c ∧ Sunk q g m cap n P M w k f wr) (fun _ b _ => 2 * k + 3 - (intOf b).toNat)
    case atStart => exact ⟨k, 2 * k + 1, rfl, by go_num, by omega, hk, SinkIn.start f hk, hs⟩
    case round =>
      clear hs
      obtain ⟨fst, c, rfl, rfl, hc3, hfn, hsi, hs⟩ := hrel
      have hc0 := hs.2.1.c0
      by_cases t1 : c ≤ 2 * k + 2
      · by_cases t2 : c < n
        · have HBe := Lib.hid (before_any hs.2.1 t2 hfn)
          cases ht : bef (f c) (f fst)
          · rw [ht] at HBe
            go_wp2_with fail
            refine HBe.out.mono ?_
            rintro e w1 ⟨rfl, hb1⟩
            go_wp2
            go_roundw
            case rel => exact ⟨fst, c + 1, rfl, by go_num, by omega, hfn, hsi.stay t1 (bef_false.1 ht), sunk_below hs hb1⟩
            case measure => simp [intOf]; omega
          · rw [ht] at HBe
            go_wp2_with fail
            refine HBe.out.mono ?_
            rintro e w1 ⟨rfl, hb1⟩
            go_wp2
            go_roundw
            case rel => exact ⟨c, c + 1, rfl, by go_num, by omega, t2, hsi.take t1 t2 (bef_true.1 ht), sunk_below hs hb1⟩
            case measure => simp [intOf]; omega
        · have hno : ¬ (c ≤ 2 * k + 2 ∧ c < n) := fun h => t2 h.2
          by_cases hf : fst = k
          · subst hf
            have HN := Lib.hid hno
            clear hno
            go_wp2
            go_end0
            exact sunk_done hs hsi HN.out
          · have hf' : ((fst : Int) == (k : Int)) = false := beq_eq_false_iff_ne.2 (by omega)
            have HS := Lib.hid (swap_any hs.2.1 hk hfn)
            have HN := Lib.hid (And.intro hno hf)
            clear hno hf
            go_wp2_with fail
            refine HS.out.mono ?_
            rintro e w1 ⟨rfl, hQ2, hc2⟩
            obtain ⟨hlt, hx⟩ := sunk_next hs hsi HN.out.1 HN.out.2 ⟨hQ2, hc2⟩
            clear hQ2 hc2
            go_wp2
            go_roundw
            case rel => exact ⟨fst, _, rfl, hfn, hx⟩
            case measure => simp [intOf]; omega
      · have hno : ¬ (c ≤ 2 * k + 2 ∧ c < n) := fun h => t1 h.1
        by_cases hf : fst = k
        · subst hf
          have HN := Lib.hid hno
          clear hno
          go_wp2
          go_end0
          exact sunk_done hs hsi HN.out
        · have hf' : ((fst : Int) == (k : Int)) = false := beq_eq_false_iff_ne.2 (by omega)
          have HS := Lib.hid (swap_any hs.2.1 hk hfn)
          have HN := Lib.hid (And.intro hno hf)
          clear hno hf
          go_wp2_with fail
          refine HS.out.mono ?_
          rintro e w1 ⟨rfl, hQ2, hc2⟩
          obtain ⟨hlt, hx⟩ := sunk_next hs hsi HN.out.1 HN.out.2 ⟨hQ2, hc2⟩
          clear hQ2 hc2
          go_wp2
          go_roundw
          case rel => exact ⟨fst, _, rfl, hfn, hx⟩
          case measure => simp [intOf]; omega

theorem settle_any {w : World} {q g m cap n : Nat} {P : Value} {f : Nat → It} {M : Held} (h : QH w q g m cap n P f) {k : Nat} (hk : k < n) (hb : HB f n k) (hr : Rep f n M) :
    Calls Try.prog 43 #[.pointer (some ⟨q, 0, none⟩), .int .i64 (k : Int)] w (Settled q g m cap n P M w) := by
  have HR := Lib.hid (rise_any h hk hb hr)
  clear h hb hr
  go_enter Try.func43, Try.ntmps43
  go_wp2_with fail
  refine HR.out.mono ?_
  rintro e w1 ⟨k', rfl, hk', f', hQ, hB, hU, hR, hC⟩
  have HS := Lib.hid (sink_any hQ hk' hB hU hR)
  have HC := Lib.hid hC
  clear hQ hB hU hR hC
  go_wp2_with fail
  refine HS.out.mono ?_
  rintro e w2 ⟨rfl, f2, a1, a2, a3, a4⟩
  go_wp2
  go_end0
  exact ⟨rfl, f2, a1, a2, a3, HC.out.trans a4⟩

end Go.Proofs.Ytbckppflfgdblaa
