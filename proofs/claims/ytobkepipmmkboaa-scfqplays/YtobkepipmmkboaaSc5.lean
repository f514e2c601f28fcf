/- Package scfq: next. -/
import Derived.Test.YtobkepipmmkboaaSc3
namespace Go.Proofs.Ytobkepipmmkboaa
open Go.RowKit Go.Maps

/-- Which flow is next, or -1. -/
def nxt (b : Option (Nat × Int × Int)) : Int := match b with
  | none => -1
  | some x => (x.1 : Int)
theorem bestF_nil {q : Nat → List (Int × Int)} {i : Nat} (h : q i = []) : bestF q (i + 1) = bestF q i := by
  conv => lhs; unfold bestF
  rw [h]
theorem bestF_first {q : Nat → List (Int × Int)} {i : Nat} {b g : Int} {r : List (Int × Int)} (h : q i = (b, g) :: r) (hn : bestF q i = none) : bestF q (i + 1) = some (i, b, g) := by
  conv => lhs; unfold bestF
  rw [h]
  dsimp only
  rw [hn]
theorem bestF_two {q : Nat → List (Int × Int)} {i : Nat} {b g : Int} {r : List (Int × Int)} (h : q i = (b, g) :: r) {f : Nat} {b' g' : Int} (hn : bestF q i = some (f, b', g')) : bestF q (i + 1) = if g < g' then some (i, b, g) else some (f, b', g') := by
  conv => lhs; unfold bestF
  rw [h]
  dsimp only
  rw [hn]
set_option maxRecDepth 100000 in
set_option maxHeartbeats 8000000 in
theorem next_any {w wr : World} {lb fb eb n : Nat} {o : Obj} {xs : List Int} {S : List (Nat × Int)} {s : Sc} (h : LkE w wr lb fb eb o n xs S s) (h4 : ∀ k, (s.q k).length ≤ 400) (hn16 : n ≤ 16) :
    Calls Try.prog 26 #[.pointer (some ⟨lb, 0, none⟩)] wr fun e w' => e = .returned (.int .i64 (nxt (bestF s.q n))) ∧ Below wr.heap.size wr w' := by
  obtain ⟨v, Aq, cq, h⟩ := h
  have c1 := h.c1
  have HB : Hid (∀ i b g r, i < n → s.q i = (b, g) :: r → ∀ W, Below wr.heap.size wr W → ∃ gb off, Aq i = some ⟨gb, off, none⟩ ∧ W.cell? ⟨gb, off + 1, none⟩ = some (.int .i64 g) ∧ gb < W.heap.size) := Lib.hid (fun i b g r hi hq W hW => by
    obtain ⟨gb, off, e, _, hg⟩ := (h.later hW).head hi hq
    exact ⟨gb, off, e, hg, (((h.later hW).own i hi).1.ab gb ⟨_, e, rfl⟩).2⟩)
  have HC : Hid (∀ W, Below wr.heap.size wr W → W.cell? ⟨lb, 1, none⟩ = some (.slice (some ⟨fb, 0, none⟩) n n) ∧ lb < W.heap.size ∧ fb < W.heap.size) := Lib.hid (fun W hW => ⟨(h.later hW).c1, (h.later hW).row.lt, (h.later hW).flows.lt⟩)
  have HF : Hid (∀ i, i < n → ∀ W, Below wr.heap.size wr W → W.cell? ⟨fb, i * 3, none⟩ = some (.int .i64 (fn xs i)) ∧ W.cell? ⟨fb, i * 3 + 1, none⟩ = some (.int .i64 (s.last i)) ∧ W.cell? ⟨fb, i * 3 + 2, none⟩ = some (.slice (Aq i) (s.q i).length (cq i))) := Lib.hid (fun i hi W hW => ⟨(h.later hW).f0 hi, (h.later hW).f1 hi, (h.later hW).f2 hi⟩)
  have H0 := Lib.hid (Below.refl wr.heap.size wr)
  clear h
  go_enter Try.func26, Try.ntmps26
  go_wp2_with fail
  go_loopg [11, 3] n (fun z c x wi => ∃ i : Nat, c = .int .i64 (i : Int) ∧ i + z = n ∧ x = .int .i64 (nxt (bestF s.q i)) ∧ Hid (Below wr.heap.size wr wi))
  case atStart => exact ⟨0, rfl, by omega, rfl, H0⟩
  case round =>
    clear c1 H0
    obtain ⟨i, rfl, hiz, rfl, HI⟩ := hrel
    cases gk with
    | zero =>
      obtain rfl : i = n := by omega
      go_wp2_with fail
      go_ret
      exact ⟨rfl, HI.out⟩
    | succ z =>
      have hi : i < n := by omega
      have i1 : (i : Int) < (n : Int) := by omega
      obtain ⟨f0, f1, f2⟩ := HF.out i hi _ HI.out
      obtain ⟨c1, l1, l2⟩ := HC.out _ HI.out
      have ba := fun ob => HI.out.alloc HI.out.size ob
      cases hq : s.q i with
      | nil =>
        rw [hq, List.length_nil] at f2
        have e := bestF_nil hq
        have HM := Lib.hid (And.intro e ba)
        clear hq e ba HF HB HC HI
        go_upto_region 6 with fail
        all_goals
          go_wp2_with fail
          go_roundg z
          case measure => omega
          case rel => exact ⟨i + 1, by go_num, by omega, by rw [HM.out.1], Lib.hid (HM.out.2 _)⟩
      | cons y r =>
        obtain ⟨b, g⟩ := y
        obtain ⟨gb, off, hA, d1, d2⟩ := HB.out i b g r hi hq _ HI.out
        rw [hq, List.length_cons, hA] at f2
        have hlen : r.length ≤ 400 := by have := h4 i; rw [hq, List.length_cons] at this; omega
        cases hb : bestF s.q i with
        | none =>
          have HM := Lib.hid (And.intro (bestF_first hq hb) ba)
          have e1 : nxt none = -1 := rfl
          rw [e1]
          clear hq hb ba HF HB HC HI h4 hA
          generalize r.length = m at *
          go_upto_region 6 with fail
          go_quiet (fail)
          go_wp2_with fail
          go_roundg z
          case measure => omega
          case rel => exact ⟨i + 1, by go_num, by omega, by rw [HM.out.1]; rfl, Lib.hid (below_drewN (HM.out.2 _) _)⟩
        | some x =>
          obtain ⟨f, b', g'⟩ := x
          have hbs := bestF_some hb
          obtain ⟨r', hq'⟩ := hbs.has
          have hfi := hbs.lt
          have hf : f < n := by omega
          have k1 : (f : Int) < (n : Int) := by omega
          obtain ⟨gb', off', hA', d3, d4⟩ := HB.out f b' g' r' hf hq' _ HI.out
          obtain ⟨-, -, f3⟩ := HF.out f hf _ HI.out
          rw [hq', List.length_cons, hA'] at f3
          have hlen' : r'.length ≤ 400 := by have := h4 f; rw [hq', List.length_cons] at this; omega
          have e1 : nxt (some (f, b', g')) = (f : Int) := rfl
          have e0 : decide ((f : Int) < 0) = false := by rw [decide_eq_false_iff_not]; omega
          rw [e1]
          by_cases hlt : g < g'
          · have HM := Lib.hid (And.intro (by have := bestF_two hq hb; rwa [if_pos hlt] at this) ba)
            have hd : decide (g < g') = true := decide_eq_true hlt
            clear hq hb ba HF HB HC HI h4 hA hA' hbs hq' hlt e1
            generalize r.length = m at *
            generalize r'.length = m' at *
            go_upto_region 6 with fail
            go_quiet (fail)
            go_wp2_with fail
            go_roundg z
            case measure => omega
            case rel => exact ⟨i + 1, by go_num, by omega, by rw [HM.out.1]; rfl, Lib.hid (below_drewN (HM.out.2 _) _)⟩
          · have HM := Lib.hid (And.intro (by have := bestF_two hq hb; rwa [if_neg hlt] at this) ba)
            have hd : decide (g < g') = false := decide_eq_false hlt
            clear hq hb ba HF HB HC HI h4 hA hA' hbs hq' hlt e1
            generalize r.length = m at *
            generalize r'.length = m' at *
            go_upto_region 6 with fail
            go_quiet (fail)
            go_wp2_with fail
            go_roundg z
            case measure => omega
            case rel => exact ⟨i + 1, by go_num, by omega, by rw [HM.out.1]; rfl, Lib.hid (below_drewN (HM.out.2 _) _)⟩
end Go.Proofs.Ytobkepipmmkboaa
