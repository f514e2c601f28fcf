/- The check 'alive' of package heaps' laws returns true. -/
import Derived.Test.YtbckppflfgdblaaHp14
namespace Go.Proofs.Ytbckppflfgdblaa
open Go.RowKit Go.Maps

def aliveOps : List Op4 := [⟨1, 5, 0, 9⟩, ⟨1, 7, 0, 3⟩, ⟨1, 2, 1, 0⟩, ⟨4, 2, 0, 9⟩, ⟨2, 0, 0, 0⟩, ⟨1, 2, 0, 0⟩]
def aliveM : Held := updM (updM (updM (updM (fun _ => none) 5 (0, 9)) 7 (0, 3)) 2 (1, 0)) 2 (0, 9)
theorem alive_least : least aliveM = 7 := by
  refine least_eq ⟨(0, 3), by simp [aliveM, updM], fun y l hy => ?_⟩
  simp only [aliveM, updM] at hy
  unfold Bef
  (repeat' split at hy) <;> first | (cases hy; done) | (injection hy with hy; subst hy; simp <;> omega)
theorem alive_least2 : least (delM aliveM 7) = 2 := by
  refine least_eq ⟨(0, 9), by simp [aliveM, updM, delM], fun y l hy => ?_⟩
  simp only [aliveM, updM, delM] at hy
  unfold Bef
  (repeat' split at hy) <;> first | (cases hy; done) | (injection hy with hy; subst hy; simp <;> omega)
theorem alive_least3 : least (delM (delM aliveM 7) 2) = 5 := by
  refine least_eq ⟨(0, 9), by simp [aliveM, updM, delM], fun y l hy => ?_⟩
  simp only [aliveM, updM, delM] at hy
  unfold Bef
  (repeat' split at hy) <;> first | (cases hy; done) | (injection hy with hy; subst hy; simp <;> omega)
theorem alive_run : run q0 aliveOps = ([0, 0, 0, 0, 0, 6], [7], ⟨2, delM aliveM 7⟩) := by
  have h1 : step q0 ⟨1, 5, 0, 9⟩ = (0, [], ⟨1, updM (fun _ => none) 5 (0, 9)⟩) := by simp [step, q0]
  have h2 : step ⟨1, updM (fun _ => none) 5 (0, 9)⟩ ⟨1, 7, 0, 3⟩ = (0, [], ⟨2, updM (updM (fun _ => none) 5 (0, 9)) 7 (0, 3)⟩) := by simp [step, updM]
  have h3 : step ⟨2, updM (updM (fun _ => none) 5 (0, 9)) 7 (0, 3)⟩ ⟨1, 2, 1, 0⟩ = (0, [], ⟨3, updM (updM (updM (fun _ => none) 5 (0, 9)) 7 (0, 3)) 2 (1, 0)⟩) := by simp [step, updM]
  have h4 : step ⟨3, updM (updM (updM (fun _ => none) 5 (0, 9)) 7 (0, 3)) 2 (1, 0)⟩ ⟨4, 2, 0, 9⟩ = (0, [], ⟨3, aliveM⟩) := by simp [step, updM, aliveM]
  have h5 : step ⟨3, aliveM⟩ ⟨2, 0, 0, 0⟩ = (0, [7], ⟨2, delM aliveM 7⟩) := by simp [step, alive_least]
  have h6 : step ⟨2, delM aliveM 7⟩ ⟨1, 2, 0, 0⟩ = (6, [], ⟨2, delM aliveM 7⟩) := by simp [step, delM, aliveM, updM]
  simp only [aliveOps, run, h1, h2, h3, h4, h5, h6, List.nil_append, List.append_nil]
theorem alive_drain : drainF 2 (delM aliveM 7) = [2, 5] := by
  simp only [drainF, alive_least2, alive_least3]

theorem NumsIs.below {t : TypeId} {B : Nat} {w w' : World} {P : Value} {ps : List Int} (h : NumsIs t B w P ps) (hb : Below w.heap.size w w') : NumsIs t B w' P ps := by
  refine ⟨h.1, ?_⟩
  rcases h.2 with hn | ⟨g, cap, cur, rfl, hB, hgg, rest⟩
  · exact .inl hn
  · exact .inr ⟨g, cap, cur, rfl, hB, (hb.block g (World.ownsRow.lt h g rfl).2).trans hgg, rest⟩
theorem IntsIs.nums {B : Nat} {w : World} {P : Value} {ps : List Int} (h : IntsIs B w P ps) : NumsIs 3 B w P ps := h
/-- A slice literal of numbers. -/
theorem nums_lit (t : TypeId) (w : World) (xs : List Int) (h : xs.length ≤ maxLen) : NumsIs t 0 (w.alloc (.cells (ints xs).toArray t)) (.slice (some ⟨w.heap.size, 0, none⟩) xs.length xs.length) xs := by
  refine ⟨by simp [ints], .inr ⟨w.heap.size, xs.length, (ints xs).toArray, rfl, Nat.zero_le _, heap_alloc_new w _, Nat.le_refl _, h, by simp [ints], ?_⟩⟩
  rw [List.take_of_length_le (by simp [ints])]

theorem alive_ops (w : World) : OpsAt (w.alloc (.cells #[.int .i64 1, .int .i64 5, .int .u64 0, .int .u64 9, .int .i64 1, .int .i64 7, .int .u64 0, .int .u64 3, .int .i64 1, .int .i64 2, .int .u64 1, .int .u64 0, .int .i64 4, .int .i64 2, .int .u64 0, .int .u64 9, .int .i64 2, .int .i64 0, .int .u64 0, .int .u64 0, .int .i64 1, .int .i64 2, .int .u64 0, .int .u64 0] 37)) w.heap.size 0 aliveOps := by
  intro j o ho
  have hc := fun i => cell_of_row _ w.heap.size i _ _ _ (heap_alloc_new w (.cells #[.int .i64 1, .int .i64 5, .int .u64 0, .int .u64 9, .int .i64 1, .int .i64 7, .int .u64 0, .int .u64 3, .int .i64 1, .int .i64 2, .int .u64 1, .int .u64 0, .int .i64 4, .int .i64 2, .int .u64 0, .int .u64 9, .int .i64 2, .int .i64 0, .int .u64 0, .int .u64 0, .int .i64 1, .int .i64 2, .int .u64 0, .int .u64 0] 37))
  rw [hc, hc, hc, hc]
  rcases j with _ | _ | _ | _ | _ | _ | j
  all_goals first | (simp only [aliveOps, List.getElem?_cons_zero, List.getElem?_cons_succ, Option.some.injEq] at ho; subst ho; exact ⟨rfl, rfl, rfl, rfl⟩) | (simp [aliveOps] at ho)

theorem alive_play (w : World) {W : World} (hW : W = w.alloc (.cells #[.int .i64 1, .int .i64 5, .int .u64 0, .int .u64 9, .int .i64 1, .int .i64 7, .int .u64 0, .int .u64 3, .int .i64 1, .int .i64 2, .int .u64 1, .int .u64 0, .int .i64 4, .int .i64 2, .int .u64 0, .int .u64 9, .int .i64 2, .int .i64 0, .int .u64 0, .int .u64 0, .int .i64 1, .int .i64 2, .int .u64 0, .int .u64 0] 37)) :
    Calls Try.prog 8 #[.slice (some ⟨w.heap.size, 0, none⟩) 6 6] W fun e w' => ∃ E P L, e = .returned (.tuple #[E, P, L]) ∧ NumsIs 28 0 w' E [0, 0, 0, 0, 0, 6] ∧ NumsIs 3 0 w' P [7] ∧ NumsIs 3 0 w' L [2, 5] ∧ Below w.heap.size w w' := by
  subst hW
  refine (play_any (os := aliveOps) (cap := 6) (fun _ => rfl) (alive_ops w) (fun _ => by simp) ?_ (by simp [aliveOps])).mono ?_
  · intro o ho
    simp only [aliveOps, List.mem_cons, List.not_mem_nil, or_false] at ho
    rcases ho with rfl | rfl | rfl | rfl | rfl | rfl <;> exact I64.of (by decide) (by decide)
  · rintro e w' ⟨E, P, L, rfl, h1, h2, h3, h4⟩
    rw [alive_run] at h1 h2 h3
    rw [alive_drain] at h3
    have hz : ∀ {t v xs B}, NumsIs t B w' v xs → NumsIs t 0 w' v xs := fun h => ⟨h.1, h.2.imp id (fun ⟨g, cap, cur, a, b, c⟩ => ⟨g, cap, cur, a, Nat.zero_le _, c⟩)⟩
    have hb0 : Below w.heap.size w (w.alloc (.cells #[.int .i64 1, .int .i64 5, .int .u64 0, .int .u64 9, .int .i64 1, .int .i64 7, .int .u64 0, .int .u64 3, .int .i64 1, .int .i64 2, .int .u64 1, .int .u64 0, .int .i64 4, .int .i64 2, .int .u64 0, .int .u64 9, .int .i64 2, .int .i64 0, .int .u64 0, .int .u64 0, .int .i64 1, .int .i64 2, .int .u64 0, .int .u64 0] 37)) := (Below.refl _ _).alloc (Nat.le_refl _) _
    exact ⟨E, P, L, rfl, hz h1, hz h2, hz h3, hb0.trans (h4.mono hb0.size)⟩

/-- Equal, of a slice that lies and a literal. -/
theorem equal_errs_lit {w W : World} {v : Value} {xs : List Int} (h1 : NumsIs 28 0 w v xs) (hn : xs.length ≤ 5000000000000) {c : Array Value} (hc : (ints xs).toArray = c) (hW : W = w.alloc (.cells c 28)) {n : Nat} (hl : xs.length = n) :
    Calls Try.prog 10 #[v, .slice (some ⟨w.heap.size, 0, none⟩) n n] W fun e w' => e = .returned (.bool true) ∧ Below w.heap.size w w' := by
  subst hW hc hl
  have hb : Below w.heap.size w (w.alloc (.cells (ints xs).toArray 28)) := (Below.refl _ _).alloc (Nat.le_refl _) _
  refine (equal_errs (h1.below hb) (nums_lit _ w xs (by simp only [maxLen]; omega)) hn).mono ?_
  rintro e w' ⟨rfl, k, rfl⟩
  exact ⟨by simp, hb.os, hb.tape, hb.output, hb.size, hb.block⟩
theorem equal_ints_lit {w W : World} {v : Value} {xs : List Int} (h1 : NumsIs 3 0 w v xs) (hn : xs.length ≤ 5000000000000) {c : Array Value} (hc : (ints xs).toArray = c) (hW : W = w.alloc (.cells c 3)) {n : Nat} (hl : xs.length = n) :
    Calls Try.prog 11 #[v, .slice (some ⟨w.heap.size, 0, none⟩) n n] W fun e w' => e = .returned (.bool true) ∧ Below w.heap.size w w' := by
  subst hW hc hl
  have hb : Below w.heap.size w (w.alloc (.cells (ints xs).toArray 3)) := (Below.refl _ _).alloc (Nat.le_refl _) _
  refine (equal_ints (h1.below hb) (nums_lit _ w xs (by simp only [maxLen]; omega)) hn).mono ?_
  rintro e w' ⟨rfl, k, rfl⟩
  exact ⟨by simp, hb.os, hb.tape, hb.output, hb.size, hb.block⟩

set_option maxHeartbeats 1000000 in
theorem alive_any (w : World) : Calls Try.prog 12 #[] w fun e w' => e = .returned (.bool true) ∧ Below w.heap.size w w' := by
  have HP := Lib.hid (alive_play w rfl)
  go_enter Try.func12, Try.ntmps12
  go_wp2_with fail
  refine HP.out.mono ?_
  rintro e w1 ⟨E, P, L, rfl, h1, h2, h3, h4⟩
  have H1 := Lib.hid (equal_errs_lit h1 (by simp) rfl rfl rfl)
  have HX := Lib.hid (And.intro h2 (And.intro h3 h4))
  clear h1 h2 h3 h4 HP
  go_wp2_with fail
  refine H1.out.mono ?_
  rintro e w2 ⟨rfl, hb2⟩
  have H2 := Lib.hid (equal_ints_lit (HX.out.1.below hb2) (by simp) rfl rfl rfl)
  have HY := Lib.hid hb2
  clear hb2 H1
  go_wp2_with fail
  refine H2.out.mono ?_
  rintro e w3 ⟨rfl, hb3⟩
  have H3 := Lib.hid (equal_ints_lit ((HX.out.2.1.below HY.out).below hb3) (by simp) rfl rfl rfl)
  have HZ := Lib.hid hb3
  clear hb3 H2
  go_wp2_with fail
  refine H3.out.mono ?_
  rintro e w4 ⟨rfl, hb4⟩
  go_wp2
  go_ret
  have k1 := HX.out.2.2.trans (HY.out.mono HX.out.2.2.size)
  have k2 := k1.trans (HZ.out.mono k1.size)
  exact ⟨rfl, k2.trans (hb4.mono k2.size)⟩

end Go.Proofs.Ytbckppflfgdblaa
