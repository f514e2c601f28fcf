/- With more room no fewer come in: the walk of RingMore. -/
import Derived.Test.YthjnjfolbhhpnaaRg12
import Derived.Test.YthjnjfolbhhpnaaRgMoreM
namespace Go.Proofs.Ythjnjfolbhhpnaa
open Go.RowKit Go.Maps

theorem info_op : (Try.prog.info? 26).map (fun i => (i.zero, i.size, i.bytes)) = some (some (.agg #[.int .i64 0, .int .i64 0]), 2, 16) := by kernel_rfl
theorem under_ops : Try.prog.underlying 33 = some (.slice 26) := by kernel_rfl
def opCells (os : List (Int × Int)) : List Value := os.flatMap fun o => [.int .i64 o.1, .int .i64 o.2]
theorem opCells_length (os : List (Int × Int)) : (opCells os).length = os.length * 2 := by
  induction os with
  | nil => rfl
  | cons o r ih =>
    unfold opCells at *
    rw [List.flatMap_cons, List.length_append, ih, List.length_cons]
    simp only [List.length_cons, List.length_nil]
    omega
theorem opCells_append (a b : List (Int × Int)) : opCells (a ++ b) = opCells a ++ opCells b := List.flatMap_append
theorem opCells_at {os : List (Int × Int)} {j : Nat} {o : Int × Int} (h : os[j]? = some o) : (opCells os)[j * 2]? = some (.int .i64 o.1) ∧ (opCells os)[j * 2 + 1]? = some (.int .i64 o.2) := by
  induction os generalizing j with
  | nil => cases h
  | cons x r ih =>
    have e : opCells (x :: r) = .int .i64 x.1 :: .int .i64 x.2 :: opCells r := rfl
    rw [e]
    cases j with
    | zero =>
      simp only [List.getElem?_cons_zero, Option.some.injEq] at h
      subst h
      exact ⟨rfl, rfl⟩
    | succ j =>
      have := ih (j := j) (by simpa using h)
      rw [show (j + 1) * 2 = j * 2 + 1 + 1 by omega]
      simpa using this
/-- Operations in a row of the call's own. -/
def OwnOp (B : Nat) (w : World) (v : Value) (os : List (Int × Int)) : Prop := w.ownsRow B 26 2 v os.length (opCells os)
theorem OwnOp.form {B : Nat} {w : World} {v : Value} {os : List (Int × Int)} (h : OwnOp B w v os) (hl : os.length * 16 ≤ 140737488355328) : ∃ A cap, v = .slice A os.length cap ∧ OpsIn w A os := by
  rcases h.2 with ⟨rfl, h0⟩ | ⟨g, cap, cur, rfl, hB, hg, hn, _, hs, ht⟩
  · exact ⟨none, 0, by rw [h0], ⟨fun h => by omega, hl⟩⟩
  · refine ⟨_, cap, rfl, ⟨fun _ => ⟨g, 0, rfl, (World.ownsRow.lt h g rfl).2, fun j o ho => ?_⟩, hl⟩⟩
    have hj := lt_of_some ho
    obtain ⟨e1, e2⟩ := opCells_at ho
    rw [← ht, List.getElem?_take_of_lt (by omega), Array.getElem?_toList] at e1 e2
    exact ⟨by rw [Nat.zero_add, cell_of_row w g _ cur _ _ hg, e1], by rw [Nat.zero_add, cell_of_row w g _ cur _ _ hg, e2]⟩
/-- One operation more. -/
theorem op_more {B : Nat} {w : World} {v : Value} {os : List (Int × Int)} {x : Int} (h : OwnOp B w v os) (hB : B ≤ w.heap.size) (hn : (os.length + 1) * 16 ≤ 140737488355328) :
    ∃ v' W, (∀ ty, (Builtin.append_ #[33, 33] ty #[v, .slice (some ⟨w.heap.size, 0, none⟩) 1 1]).run Try.prog (w.alloc (.cells #[.int .i64 1, .int .i64 x] 26)) = .ok v' W) ∧ OwnOp B W v' (os ++ [(1, x)]) ∧ Below B w W := by
  obtain ⟨i0, hi, hz0, hz1, hz2⟩ := info_parts info_op
  have key := fun ty => run_append_own_at (P := Try.prog) (w.alloc (.cells #[.int .i64 1, .int .i64 x] 26)) B 33 ty 26 i0 _ 2 16 under_ops hi hz0 hz1 hz2 rfl (by decide) v os.length (opCells os) (h.alloc _)
    ⟨w.heap.size, 0, none⟩ 1 1 [.int .i64 1, .int .i64 x] rfl (World.news_of_block (heap_alloc_new w _)) (by intro u hu; simp only [List.mem_cons, List.not_mem_nil, or_false] at hu; rcases hu with rfl | rfl <;> rfl) (by simp only [maxLen]; omega) (by omega) (by simp; omega)
  obtain ⟨v', W, hr, h2, h3, _, _⟩ := key 0
  have hb : Below B w (w.alloc (.cells #[.int .i64 1, .int .i64 x] 26)) := (Below.refl _ _).alloc hB _
  refine ⟨v', W, fun ty => hr, ?_, hb.trans ⟨h3.os, h3.tape, h3.output, h3.size, fun k hk => h3.block k (by simp; omega) (fun e => by have := (World.ownsRow.lt h k e.symm).1; omega)⟩⟩
  unfold OwnOp
  rw [opCells_append, List.length_append]
  exact h2
/-- 's[:k]' of a slice of one's own. -/
theorem head_run {B : Nat} {w : World} {A : Option Addr} {xs : List Int} {cap : Nat} (h : Fifo B w A xs cap) (n k : Nat) (hk : k ≤ cap) (W : World) : (Instr.slice 22 (.slice A n cap) none (some (.int .i64 (k : Int))) none).run Try.prog W = .ok (.slice A k cap) W := by
  rw [run_slice_h (P := Try.prog) W 22 A n cap elem_ints .i64 (k : Int) (by omega) (by omega), size_ints]
  by_cases h0 : 0 < cap
  · obtain ⟨g, off, _, _, rfl, _⟩ := h.row h0
    simp [Result.andThen, sliced, Addr.add]
  · have e : cap = 0 := by omega
    subst e
    have e2 : k = 0 := by omega
    subst e2
    simp [Result.andThen, sliced]

/-- What the two runs answer. -/
def More (p q : List Int × Qu × Int) : Prop := p.2.2 = 0 ∧ q.2.2 = 0 ∧ p.2.1.has.length ≤ q.2.1.has.length ∧ q.2.1.has.length ≤ p.2.1.has.length + 1 ∧ q.2.1.dr ≤ p.2.1.dr ∧ q.2.1.has.take p.2.1.has.length = p.2.1.has ∧ p.2.1.has.length ≤ 400
theorem more_cases (most : Int) {xs : List Int} (hx : xs.length ≤ 1048576) :
    (played most 1073741824 (ins xs)).2.2 ≠ 0 ∨ ((played most 1073741824 (ins xs)).2.2 = 0 ∧ (played (IntKind.i64.wrap (most + 1)) 1073741824 (ins xs)).2.2 ≠ 0) ∨ More (played most 1073741824 (ins xs)) (played (IntKind.i64.wrap (most + 1)) 1073741824 (ins xs)) := by
  unfold More played
  by_cases h1 : (Qu.start most 1073741824).right = true
  · rw [if_pos h1]
    by_cases h2 : (Qu.start (IntKind.i64.wrap (most + 1)) 1073741824).right = true
    · rw [if_pos h2]
      have m1 : 0 ≤ most ∧ most ≤ 400 := (Qu.right_iff.1 h1).most
      have m2 : IntKind.i64.wrap (most + 1) ≤ 400 := (Qu.right_iff.1 h2).most.2
      have hw : IntKind.i64.wrap (most + 1) = most + 1 := by simp [IntKind.wrap, IntKind.bits, IntKind.signed]; omega
      rw [hw] at m2 ⊢
      obtain ⟨m, rfl⟩ := Int.eq_ofNat_of_zero_le m1.1
      have := more_all (m := m) (by omega) hx
      have e : ((m + 1 : Nat) : Int) = (m : Int) + 1 := by omega
      rw [e] at this
      exact .inr (.inr ⟨rfl, rfl, this.1, this.2.1, this.2.2.1, this.2.2.2, (plays_ok h1 (ins xs)).small⟩)
    · rw [if_neg h2]
      exact .inr (.inl ⟨rfl, by decide⟩)
  · rw [if_neg h1]
    exact .inl (by decide)
theorem ins_snoc {xs : List Int} {i : Nat} {x : Int} (h : xs[i]? = some x) : ins (xs.take (i + 1)) = ins (xs.take i) ++ [(1, x)] := by
  rw [take_snocI h]
  unfold ins
  rw [List.map_append]; rfl
theorem ins_length (xs : List Int) : (ins xs).length = xs.length := List.length_map _
theorem ints_take {w : World} {A : Option Addr} {xs : List Int} (h : IntsIn w A xs) (k : Nat) : IntsIn w A (xs.take k) := by
  refine ⟨fun h0 => ?_, by have := h.len; rw [List.length_take]; omega⟩
  obtain ⟨b, off, e, hl, hc⟩ := h.at_ (by rw [List.length_take] at h0; omega)
  refine ⟨b, off, e, hl, fun j x hx => hc j x ?_⟩
  rw [List.getElem?_take] at hx
  split at hx
  · exact hx
  · cases hx
theorem played_small (most mb : Int) (os : List (Int × Int)) : (played most mb os).2.1.has.length ≤ 400 := by
  unfold played
  split
  · rename_i h
    exact (plays_ok h os).small
  · exact Nat.zero_le _

set_option maxRecDepth 100000 in
set_option maxHeartbeats 8000000 in
theorem more_law {w : World} {A : Option Addr} {xs : List Int} {n : Nat} (hP : IntsIn w A xs) (hn : xs.length = n) (hsm : n ≤ 1048576) (cap : Nat) (most : Int) :
    Calls Try.prog 7 #[.slice A n cap, .int .i64 most] w fun e w' => e = .returned (.bool true) ∧ Below w.heap.size w w' := by
  have HA := Lib.hid (fun W => alive8_any W)
  have HP := Lib.hid hP
  have HN := Lib.hid hn
  have HM := Lib.hid (more_cases most (xs := xs) (by omega))
  clear hP hn
  go_enter Try.func7, Try.ntmps7
  go_wp2_with fail
  refine (HA.out w).mono ?_
  rintro e w1 ⟨rfl, hb⟩
  have HB1 := Lib.hid hb
  have HI1 := Lib.hid (HP.out.below hb)
  have H0 : Hid (OwnOp w1.heap.size w1 (.slice none 0 0) (ins (xs.take 0))) := Lib.hid (World.ownsRow_nil _ _ _ _)
  have HBB := Lib.hid (Below.refl w1.heap.size w1)
  clear hb HA HP
  go_wp2_with fail
  go_loopg [5, 18] n (fun k v c wr => ∃ i : Nat, c = .int .i64 (i : Int) ∧ i + k = n ∧ Hid (OwnOp w1.heap.size wr v (ins (xs.take i))) ∧ Hid (Below w1.heap.size w1 wr))
  case atStart => exact ⟨0, rfl, by omega, H0, HBB⟩
  case round =>
    clear H0 HBB
    obtain ⟨i, rfl, hik, HO, HW⟩ := hrel
    cases gk with
    | zero =>
      obtain rfl : i = n := by omega
      have e0 : xs.take i = xs := List.take_of_length_le (by have := HN.out; omega)
      rw [e0] at HO
      have hln : (ins xs).length = i := by rw [ins_length]; exact HN.out
      obtain ⟨A5, c5, hv5, hO⟩ := HO.out.form (by rw [hln]; omega)
      rw [hln] at hv5
      subst hv5
      have HP1 := Lib.hid (play_any hO hln c5 most 1073741824)
      have HP2 := Lib.hid (fun W hW => play_any (hO.below (w' := W) hW) hln c5 (IntKind.i64.wrap (most + 1)) 1073741824)
      have HS1 := Lib.hid (played_small most 1073741824 (ins xs))
      have HS2 := Lib.hid (played_small (IntKind.i64.wrap (most + 1)) 1073741824 (ins xs))
      clear HO hO hln e0 HN HI1
      generalize played most 1073741824 (ins xs) = X at *
      generalize played (IntKind.i64.wrap (most + 1)) 1073741824 (ins xs) = Y at *
      obtain ⟨most2, hw⟩ : ∃ m, IntKind.i64.wrap (most + 1) = m := ⟨_, rfl⟩
      rw [hw] at HP2
      obtain ⟨o1, qa, E1⟩ := X
      obtain ⟨o2, qb, E2⟩ := Y
      dsimp only at HS1 HS2
      go_wp2_with fail
      refine HP1.out.mono ?_
      rintro e w2 ⟨R1, cR1, Aa, ca, rfl, hR1, hA1, hb2⟩
      dsimp only at hA1
      have bo : Below w2.heap.size w2 (w2.alloc (.cells (qa.cells Aa ca) 24)) := (Below.refl _ _).alloc (Nat.le_refl _) _
      have hb3 := hb2.trans (bo.mono hb2.size)
      have HB3 := Lib.hid (HW.out.trans (hb3.mono HW.out.size))
      have HF3 := Lib.hid (hA1.below bo)
      have HQ3 := Lib.hid (QuAt.new w2 qa Aa ca)
      have HP3 := Lib.hid (HP2.out _ hb3)
      clear hR1 hA1 hb2 bo hb3 HP1 HP2 HW
      unfold Qu.cells at *
      go_upto_region 10 with fail
      generalize w2.alloc (.cells #[.slice Aa qa.has.length ca, .int .i64 qa.most, .int .i64 qa.mb, .int .i64 qa.dr] 24) = w3 at *
      generalize w2.heap.size = b9 at *
      go_wp2_with fail
      refine HP3.out.mono ?_
      rintro e w4 ⟨R2, cR2, Ab', cb, rfl, hR2, hA2, hb4⟩
      dsimp only at hA2
      have bo : Below w4.heap.size w4 (w4.alloc (.cells (qb.cells Ab' cb) 24)) := (Below.refl _ _).alloc (Nat.le_refl _) _
      have hb5 := hb4.trans (bo.mono hb4.size)
      have HB5 := Lib.hid (HB3.out.trans (hb5.mono HB3.out.size))
      have HF5 := Lib.hid (And.intro (HF3.out.below hb5) (hA2.below bo))
      have HQ5 := Lib.hid (And.intro (HQ3.out.below hb5) (QuAt.new w4 qb Ab' cb))
      clear hR2 hA2 hb4 bo hb5 HP3 HB3 HF3 HQ3 hw
      unfold Qu.cells at *
      go_upto_region 11 with fail
      generalize w4.alloc (.cells #[.slice Ab' qb.has.length cb, .int .i64 qb.most, .int .i64 qb.mb, .int .i64 qb.dr] 24) = w5 at *
      generalize w4.heap.size = b12 at *
      have HZ : Hid (∀ t, Below w.heap.size w (w5.drewN t)) := Lib.hid (fun t => by
        have h := HB1.out.trans (HB5.out.mono HB1.out.size)
        exact ⟨h.os, h.tape, h.output, h.size, h.block⟩)
      rcases HM.out with h | h | h
      · have e1 : (E1 != 0) = true := by simpa using h
        clear HM h
        go_wp2_with fail
        go_ret
        exact ⟨rfl, HZ.out 0⟩
      · obtain ⟨h1, h2⟩ := h
        (try dsimp only at h1 h2)
        subst h1
        have e1 : (E2 != 0) = true := by simpa using h2
        clear HM h2
        go_wp2_with fail
        go_ret
        exact ⟨rfl, HZ.out 0⟩
      · obtain ⟨h1, h2, h3, h4, h5, h6, h7⟩ := h
        (try dsimp only at h1 h2 h3 h4 h5 h6 h7)
        subst h1 h2
        obtain ⟨x0, x1, x2, x3⟩ := HQ5.out.1.cells
        obtain ⟨y0, y1, y2, y3⟩ := HQ5.out.2.cells
        have hE : ∀ t, Calls Try.prog 15 #[.slice Ab' qa.has.length cb, .slice Aa qa.has.length ca] (w5.drewN t) fun e w' => e = .returned (.bool true) ∧ ∃ k, w' = (w5.drewN t).drewN k := fun t => by
          have hdn : Below w5.heap.size w5 (w5.drewN t) := ⟨rfl, rfl, rfl, Nat.le_refl _, fun _ _ => rfl⟩
          have h := equal_any ((ints_take (HF5.out.2.ints (by have := HS2.out; omega)) qa.has.length).below hdn) ((HF5.out.1.ints (by have := HS1.out; omega)).below hdn) cb ca
          rw [h6, show decide (qa.has = qa.has) = true from decide_eq_true rfl] at h
          exact h
        have HE := Lib.hid hE
        have hcb := HF5.out.2.le
        have hsl := head_run HF5.out.2 qb.has.length qa.has.length (by omega)
        obtain ⟨la, hla⟩ : ∃ l, qa.has.length = l := ⟨_, rfl⟩
        obtain ⟨lb, hlb⟩ : ∃ l, qb.has.length = l := ⟨_, rfl⟩
        rw [hla] at x0 hsl HE h3 h4 h7
        rw [hlb] at y0 hsl h3 h4
        have hw1 : IntKind.i64.wrap ((la : Int) + 1) = (la : Int) + 1 := by simp [IntKind.wrap, IntKind.bits, IntKind.signed]; omega
        have g1 : (la : Int) ≤ (lb : Int) := by omega
        have g2 : (lb : Int) ≤ (la : Int) + 1 := by omega
        clear hE hla hlb h6 h7 HM HF5 HQ5 x1 x2 y1 y2 hcb HS1 HS2 h4
        go_wp2_with fail
        go_quiet ((go_at_call 15; exact Calls.quiet_of (HE.out _)))
        go_wp2_with fail
        go_ret
        exact ⟨rfl, HZ.out _⟩
    | succ k =>
      have hi : i < n := by omega
      have i1 : (i : Int) < (n : Int) := by omega
      obtain ⟨b, off, x, rfl, hx, hat, hbl⟩ := (HI1.out.below HW.out).next (i := i) (by have := HN.out; omega)
      obtain ⟨v', W, hrun, hO', hb'⟩ := op_more (x := x) HO.out HW.out.size (by rw [ins_length, List.length_take]; omega)
      have HR := Lib.hid hrun
      have HO2 : Hid (OwnOp w1.heap.size W v' (ins (xs.take (i + 1)))) := Lib.hid (by rw [ins_snoc hx]; exact hO')
      have HW2 := Lib.hid (HW.out.trans hb')
      clear hrun hO' hb' hx hbl HO HW HM HN HI1
      go_wp2_with (at_builtin; refine wpList_append_eq rfl (.tmp 22) (.tmp 25) 33 33 rfl rfl rfl (HR.out _) ?_)
      go_roundg k
      case measure => omega
      case rel => exact ⟨i + 1, by go_num, by omega, HO2, HW2⟩
end Go.Proofs.Ythjnjfolbhhpnaa
