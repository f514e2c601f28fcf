/- The document's own answer (CPlay): it plays as the specification says. -/
import Derived.Test.YtbckppflfgdblaaHp22
namespace Go.Proofs.Ytbckppflfgdblaa
open Go.RowKit Go.Maps

/-- i operations are done. -/
def CPI (os : List Op4) (w : World) (b kb i : Nat) (E P : Value) (wr : World) : Prop :=
  CP w.heap.size b kb E P (run q0 (os.take i)).1 (run q0 (os.take i)).2.1 (run q0 (os.take i)).2.2.n (run q0 (os.take i)).2.2.M wr ∧ Below w.heap.size w wr

theorem cpi_start (os : List Op4) (w : World) : CPI os w w.heap.size (w.heap.size + 1) 0 (.slice none 0 0) (.slice none 0 0) ((w.alloc (.map #[] 0)).alloc (.cells #[.map (some w.heap.size)] 58)) := by
  have s1 : (w.alloc (.map #[] 0)).heap.size = w.heap.size + 1 := by simp
  have s2 : ((w.alloc (.map #[] 0)).alloc (.cells #[.map (some w.heap.size)] 58)).heap.size = w.heap.size + 1 + 1 := by simp
  have hb : Below w.heap.size w ((w.alloc (.map #[] 0)).alloc (.cells #[.map (some w.heap.size)] 58)) := ((Below.refl _ _).alloc (Nat.le_refl _) _).alloc (by rw [s1]; omega) _
  have hbox := heap_alloc_new (w.alloc (.map #[] 0)) (.cells #[.map (some w.heap.size)] 58)
  rw [s1] at hbox
  exact ⟨⟨(KMap.made w).of_block (Below.heap_alloc _ _ _ (by rw [s1]; omega)), hbox, World.ownsRow_nil _ _ _ _, World.ownsRow_nil _ _ _ _, hb.size, Nat.le_refl _⟩, hb⟩

theorem cpi_next {os : List Op4} {w W W' : World} {b kb i : Nat} {o : Op4} {E P : Value} {e : Int} {p : List Int} {s : Qst} (ho : os[i]? = some o) (hs : step (run q0 (os.take i)).2.2 o = (e, p, s))
    (hc : CP w.heap.size b kb E P ((run q0 (os.take i)).1 ++ [e]) ((run q0 (os.take i)).2.1 ++ p) s.n s.M W') (hb : Below w.heap.size w W) (hb2 : Below w.heap.size W W') : CPI os w b kb (i + 1) E P W' := by
  unfold CPI
  rw [take_snoc ho, run_snoc, hs]
  exact ⟨hc, hb.trans hb2⟩

theorem below_two' (w : World) (o1 o2 : Obj) : Below w.heap.size w ((w.alloc o1).alloc o2) := ((Below.refl _ _).alloc (Nat.le_refl _) o1).alloc (by simp) o2
theorem run_small {os : List Op4} {i : Nat} {o : Op4} (ho : os[i]? = some o) (hn : os.length + 1 ≤ 5000000000000) : (run q0 (os.take i)).1.length + 1 ≤ 5000000000000 ∧ (run q0 (os.take i)).2.1.length + 1 ≤ 5000000000000 ∧ (run q0 (os.take i)).2.2.n < maxLen := by
  have hi : i < os.length := by
    rcases Nat.lt_or_ge i os.length with h | h
    · exact h
    · rw [List.getElem?_eq_none h] at ho; cases ho
  obtain ⟨b1, b2⟩ := run_bound q0 (os.take i)
  have hl : (os.take i).length ≤ i := by rw [List.length_take]; omega
  have h0 : q0.n = 0 := rfl
  have h1 := run_length q0 (os.take i)
  exact ⟨by omega, by omega, by simp only [maxLen]; omega⟩
theorem Good.some {s : Qst} (h : Good s) (hn : 0 < s.n) : ∃ x, (s.M x).isSome = true := by
  obtain ⟨f, hf⟩ := h
  exact ⟨(f 0).id, by rw [hf.held 0 hn]; rfl⟩
theorem Good.least {s : Qst} (h : Good s) (hn : 0 < s.n) : (s.M (least s.M)).isSome = true := by
  obtain ⟨n, M⟩ := s
  cases n with
  | zero => exact absurd hn (by simp)
  | succ n => obtain ⟨f, hf⟩ := h; exact least_some hf.first
theorem KMap.i64 {w : World} {b n : Nat} {M : Held} (h : KMap w b n M) {x : Int} (hx : (M x).isSome = true) : I64 x := by
  obtain ⟨D, _, hM⟩ := h
  cases hk : M x with
  | none => rw [hk] at hx; cases hx
  | some k => exact hM.i64 hk

/-- The table is being emptied: done is out, k items are in. -/
structure CL (os : List Op4) (w : World) (b kb k : Nat) (M : Held) (done : List Int) (E P L : Value) (wr : World) : Prop where
  cp : CP w.heap.size b kb E P (run q0 os).1 (run q0 os).2.1 k M wr
  out : NumsIs 3 w.heap.size wr L done
  sum : done ++ drainF k M = drainF (run q0 os).2.2.n (run q0 os).2.2.M
  len : done.length + k = (run q0 os).2.2.n
  apart : ∀ g, L.ownBlock = some g → P.ownBlock ≠ some g
  good : Good ⟨k, M⟩
  below : Below w.heap.size w wr
theorem cl_start {os : List Op4} {w wr : World} {b kb n : Nat} {E P : Value} (h : CPI os w b kb n E P wr) (hn : os.length = n) : CL os w b kb (run q0 os).2.2.n (run q0 os).2.2.M [] E P (.slice none 0 0) wr := by
  unfold CPI at h
  rw [← hn, List.take_length] at h
  exact ⟨h.1, World.ownsRow_nil _ _ _ _, rfl, by simp, fun g hg => (by cases hg), good_q0.run os, h.2⟩
theorem cl_done {os : List Op4} {w wr : World} {b kb : Nat} {M : Held} {done : List Int} {E P L : Value} (h : CL os w b kb 0 M done E P L wr) : Played os w (.returned (.tuple #[E, P, L])) wr := by
  have hs := h.sum
  rw [drainF, List.append_nil] at hs
  exact ⟨E, P, L, rfl, h.cp.er, h.cp.po, by rw [← hs]; exact h.out, h.below⟩
theorem cl_step {os : List Op4} {w wr w1 : World} {b kb k : Nat} {M : Held} {done : List Int} {E P L : Value} (h : CL os w b kb (k + 1) M done E P L wr) (hb : Below wr.heap.size wr w1) (hn : os.length + 1 ≤ 5000000000000) :
    ∃ g cap W2, (Builtin.append_ #[24, 24] 24 #[L, .slice (some ⟨w1.heap.size, 0, none⟩) 1 1]).run Try.prog (w1.alloc (.cells #[.int .i64 (least M)] 3)) = .ok (.slice (some ⟨g, 0, none⟩) (done.length + 1) cap) W2 ∧ W2.cell? ⟨kb, 0, none⟩ = some (.map (some b)) ∧
      ∃ W3, (Builtin.delete_ #[58, 3] 0 #[.map (some b), .int .i64 (least M)]).run Try.prog W2 = .ok (.tuple #[]) W3 ∧ CL os w b kb k (delM M (least M)) (done ++ [least M]) E P (.slice (some ⟨g, 0, none⟩) (done.length + 1) cap) W3 := by
  have hc1 := h.cp.below hb
  have ho1 := h.out.below hb
  have hb1 : Below w.heap.size w w1 := h.below.trans (hb.mono h.below.size)
  obtain ⟨b1, b2⟩ := run_bound q0 os
  have h0 : q0.n = 0 := rfl
  have hl := h.len
  obtain ⟨g, cap, W2, hr, h2, h3, h4⟩ := nums_append Try.underlying24 Try.info3 ho1 hb1.size (by omega) (least M) rfl
  have hcW : CP w.heap.size b kb E P (run q0 os).1 (run q0 os).2.1 (k + 1) M W2 := by
    obtain ⟨k1, k2⟩ := hc1.chg h3 (fun j hj => by obtain ⟨c, hc⟩ := ho1.typed hj; exact ⟨c, _, .inr rfl, hc⟩)
    refine ⟨k1, k2, hc1.er.chg h3 (fun j hj e => ?_), hc1.po.chg h3 (fun j hj e => ?_), Nat.le_trans hc1.base h3.size, hc1.bB⟩
    · obtain ⟨c, hc⟩ := hc1.er.typed hj
      obtain ⟨d, hd⟩ := ho1.typed e
      exact cells_ne hc hd (by decide) rfl
    · exact h.apart j e hj
  have hlt : g < W2.heap.size := (World.ownsRow.lt h2 g rfl).2
  have hbW : Below w.heap.size w W2 := hb1.trans (h3.below hb1.size (fun j hj => (World.ownsRow.lt ho1 j hj).1))
  obtain ⟨W3, hr3, hc3, hb3⟩ := hcW.drop (x := least M) (hcW.km.i64 (h.good.least (by simp))) 0 (n' := k) (by have := h.good.least (by simp); simp only at this; rw [this]; rfl)
  have hP : P.ownBlock ≠ some g := by
    rcases h4 with h4 | h4
    · exact h.apart g h4
    · intro e
      have := (World.ownsRow.lt hc1.po g e).2
      omega
  refine ⟨g, cap, W2, hr, hcW.cell, W3, hr3, ⟨hc3, ?_, ?_, ?_, ?_, h.good.pop, hbW.trans hb3⟩⟩
  · obtain ⟨D, hD, _⟩ := hc3.km
    have ht : Chg (fun j => j = b) W2 W3 := by
      obtain ⟨W3', hr', _, ht⟩ := hcW.km.drop (x := least M) (hcW.km.i64 (h.good.least (by simp))) 0 (n' := k) (by have := h.good.least (by simp); simp only at this; rw [this]; rfl)
      rw [hr'] at hr3
      injection hr3 with _ e
      rw [← e]
      exact chg_turned ht rfl
    refine NumsIs.chg h2 ht (fun j hj e => ?_)
    obtain ⟨c, hc⟩ := NumsIs.typed h2 hj
    exact kmap_typed hcW.km hc e.symm
  · rw [← h.sum, drainF, List.append_assoc]; rfl
  · rw [List.length_append, List.length_singleton]; omega
  · intro j hj
    simp only [Value.ownBlock, Option.some.injEq] at hj
    rw [← hj]; exact hP

set_option maxRecDepth 100000 in
set_option maxHeartbeats 4000000 in
theorem cplay_any {w : World} {os : List Op4} {A : Option Addr} {cap b off : Nat} (hA : 0 < os.length → A = some ⟨b, off, none⟩) (hO : OpsAt w b off os) (hb : 0 < os.length → b < w.heap.size) (hid : ∀ o ∈ os, I64 o.id) (hn : os.length + 1 ≤ 5000000000000) :
    Calls Try.prog 9 #[.slice A os.length cap] w (Played os w) := by
  have hst := cpi_start os w
  obtain ⟨n, hlen⟩ : ∃ n, os.length = n := ⟨_, rfl⟩
  rw [hlen]
  have HS := Lib.hid hst
  have HX := Lib.hid (And.intro hlen (And.intro hn hid))
  have HA := Lib.hid hA
  have HO := Lib.hid (And.intro hO hb)
  rw [hlen] at hn
  clear hst hlen hid hA hO hb
  have hmm : ∀ W : World, (Instr.makeMap 58 none).run Try.prog W = .ok (.map (some W.heap.size)) (W.alloc (.map #[] 0)) := fun W => by kernel_rfl
  go_enter Try.func9, Try.ntmps9
  go_wp2
  go_loopg [7, 8, 21] n (fun k e p c wr => ∃ i : Nat, c = .int .i64 (i : Int) ∧ i + k = n ∧ Hid (CPI os w w.heap.size (w.heap.size + 1) i e p wr))
  case atStart => exact ⟨0, rfl, by omega, HS⟩
  case round =>
    obtain ⟨i, rfl, hik, HI⟩ := hrel
    clear hmm HS
    cases gk with
    | zero =>
      obtain rfl : i = n := by omega
      have HD := Lib.hid (cl_start HI.out HX.out.1)
      go_wp2_with fail
      go_loopg [9] (run q0 os).2.2.n (fun k l wx => ∃ (M' : Held) (done : List Int), Hid (CL os w w.heap.size (w.heap.size + 1) k M' done u7 u8 l wx))
      case atStart => exact ⟨_, _, HD⟩
      case round =>
        rename_i HR0
        obtain ⟨M', done, HR⟩ := hrel
        have c0 := HR.out.cp.cell
        have hl2 := HR.out.cp.km.size
        cases gk with
        | zero =>
          go_wp2
          go_ret3
          exact cl_done HR.out
        | succ k =>
          have HF := Lib.hid (first_any HR.out.cp.km HR.out.cp.cell HR.out.cp.klt (Good.some HR.out.good (by simp)))
          have t0 : (0 : Int) < (k : Int) + 1 := by omega
          go_wp2_with fail
          refine HF.out.mono ?_
          rintro e w3 ⟨rfl, hb3⟩
          obtain ⟨g, cp, W2, r2, c2, W3, r3, hD⟩ := cl_step HR.out hb3 HX.out.2.1
          have HD3 := Lib.hid hD
          clear hD hb3
          go_wp2_with (at_builtin; refine wpList_append_eq rfl (.tmp 98) (.tmp 100) 24 rfl rfl rfl r2 ?_)
          go_roundg k
          case measure => omega
          case rel => exact ⟨_, _, HD3⟩
    | succ k =>
      have hi : i < n := by omega
      obtain ⟨o, ho⟩ : ∃ o, os[i]? = some o := ⟨os[i]'(by have := HX.out.1; omega), List.getElem?_eq_getElem _⟩
      have hA1 := HA.out (by have := HX.out.1; omega)
      subst hA1
      obtain ⟨a0, a1, a2, a3⟩ := (HO.out.1.below HI.out.2 HO.out.2) i o ho
      have i1 : (i : Int) < (n : Int) := by omega
      have hxi : I64 o.id := HX.out.2.2 o (List.mem_of_getElem? ho)
      obtain ⟨q1, q2, q3⟩ := run_small ho HX.out.2.1
      have hg := good_q0.run (os.take i)
      obtain ⟨kind, x, hi', lo⟩ := o
      simp only at a0 a1 a2 a3 hxi
      obtain ⟨v0, v1, hlook⟩ := (HI.out.1.below ((Below.refl _ _).alloc (Nat.le_refl _) (.cells #[.int .i64 kind, .int .i64 x, .int .u64 hi', .int .u64 lo] 37))).km.look hxi
      have h2 := HI.out.1.below (below_two' wr (.cells #[.int .i64 kind, .int .i64 x, .int .u64 hi', .int .u64 lo] 37) (.cells #[.int .u64 v0, .int .u64 v1] 35))
      have hc0 := HI.out.1.cell
      have hk0 := HI.out.1.klt
      have hk1 : w.heap.size + 1 < wr.heap.size + 1 := Nat.lt_succ_of_lt hk0
      have hlen2 := h2.km.size
      have HP := Lib.hid (And.intro ho (And.intro h2 (And.intro (HI.out.2.trans ((below_two' wr (.cells #[.int .i64 kind, .int .i64 x, .int .u64 hi', .int .u64 lo] 37) (.cells #[.int .u64 v0, .int .u64 v1] 35)).mono HI.out.2.size)) (And.intro hxi (And.intro q1 (And.intro q2 (And.intro q3 hg)))))))
      clear h2 ho hxi q1 q2 q3 hg
      rcases (show kind < 1 ∨ 4 < kind ∨ kind = 1 ∨ kind = 2 ∨ kind = 3 ∨ kind = 4 by omega) with t | t | rfl | rfl | rfl | rfl
      · obtain ⟨g, cp, W, r, hC, hB⟩ := HP.out.2.1.err HP.out.2.2.2.2.1 5 (H := wr.heap.size + 1 + 1) (by simp)
        have HN := Lib.hid (cpi_next HP.out.1 (e := 5) (p := []) (s := (run q0 (os.take i)).2.2) (by simp only [step]; rw [if_neg (by omega), if_neg (by omega), if_neg (by omega), if_neg (by omega)]) (by simpa using hC) HP.out.2.2.1 hB)
        clear hC hB
        go_wp2_with (at_builtin; refine wpList_append_eq rfl (.tmp 88) (.tmp 90) 23 rfl rfl rfl r ?_)
        go_roundg k
        case measure => omega
        case rel => exact ⟨i + 1, by go_num, by omega, HN⟩
      · have t0 : ¬ kind < 1 := by omega
        obtain ⟨g, cp, W, r, hC, hB⟩ := HP.out.2.1.err HP.out.2.2.2.2.1 5 (H := wr.heap.size + 1 + 1) (by simp)
        have HN := Lib.hid (cpi_next HP.out.1 (e := 5) (p := []) (s := (run q0 (os.take i)).2.2) (by simp only [step]; rw [if_neg (by omega), if_neg (by omega), if_neg (by omega), if_neg (by omega)]) (by simpa using hC) HP.out.2.2.1 hB)
        clear hC hB
        go_wp2_with (at_builtin; refine wpList_append_eq rfl (.tmp 88) (.tmp 90) 23 rfl rfl rfl r ?_)
        go_roundg k
        case measure => omega
        case rel => exact ⟨i + 1, by go_num, by omega, HN⟩
      · cases hM : ((run q0 (os.take i)).2.2.M x).isSome with
        | false =>
          rw [hM] at hlook
          obtain ⟨W3, r1, hC1, hB1⟩ := HP.out.2.1.store (hi', lo) HP.out.2.2.2.1 HP.out.2.2.2.2.2.2.1 (n' := (run q0 (os.take i)).2.2.n + 1) (by rw [hM]; rfl)
          obtain ⟨g, cp, W, r, hC, hB⟩ := hC1.err HP.out.2.2.2.2.1 0 (H := W3.heap.size) rfl
          have HN := Lib.hid (cpi_next HP.out.1 (e := 0) (p := []) (s := ⟨(run q0 (os.take i)).2.2.n + 1, updM (run q0 (os.take i)).2.2.M x (hi', lo)⟩) (by simp [step, hM]) (by simpa using hC) HP.out.2.2.1 (hB1.trans hB))
          clear hC hB hC1 hB1
          go_wp2_with (at_builtin; refine wpList_append_eq rfl (.tmp 88) (.tmp 90) 23 rfl rfl rfl r ?_)
          go_roundg k
          case measure => omega
          case rel => exact ⟨i + 1, by go_num, by omega, HN⟩
        | true =>
          rw [hM] at hlook
          obtain ⟨g, cp, W, r, hC, hB⟩ := HP.out.2.1.err HP.out.2.2.2.2.1 6 (H := wr.heap.size + 1 + 1) (by simp)
          have HN := Lib.hid (cpi_next HP.out.1 (e := 6) (p := []) (s := (run q0 (os.take i)).2.2) (by simp [step, hM]) (by simpa using hC) HP.out.2.2.1 hB)
          clear hC hB
          go_wp2_with (at_builtin; refine wpList_append_eq rfl (.tmp 88) (.tmp 90) 23 rfl rfl rfl r ?_)
          go_roundg k
          case measure => omega
          case rel => exact ⟨i + 1, by go_num, by omega, HN⟩
      · by_cases hz : (run q0 (os.take i)).2.2.n = 0
        · have t3 : (((run q0 (os.take i)).2.2.n : Int) == 0) = true := by rw [hz]; rfl
          obtain ⟨g, cp, W, r, hC, hB⟩ := HP.out.2.1.err HP.out.2.2.2.2.1 3 (H := wr.heap.size + 1 + 1) (by simp)
          have HN := Lib.hid (cpi_next HP.out.1 (e := 3) (p := []) (s := (run q0 (os.take i)).2.2) (by simp [step, hz]) (by simpa using hC) HP.out.2.2.1 hB)
          clear hC hB
          go_wp2_with (at_builtin; refine wpList_append_eq rfl (.tmp 88) (.tmp 90) 23 rfl rfl rfl r ?_)
          go_roundg k
          case measure => omega
          case rel => exact ⟨i + 1, by go_num, by omega, HN⟩
        · have hz' : 0 < (run q0 (os.take i)).2.2.n := by omega
          have t3 : (((run q0 (os.take i)).2.2.n : Int) == 0) = false := beq_eq_false_iff_ne.2 (by omega)
          have HF := Lib.hid (first_any HP.out.2.1.km HP.out.2.1.cell HP.out.2.1.klt (Good.some HP.out.2.2.2.2.2.2.2 hz'))
          go_wp2_with fail
          refine HF.out.mono ?_
          rintro e w3 ⟨rfl, hb3⟩
          have hC3 := HP.out.2.1.below hb3
          obtain ⟨g2, cp2, W4, r4, hC4, hB4⟩ := hC3.pop HP.out.2.2.2.2.2.1 (least (run q0 (os.take i)).2.2.M)
          have c4 := hC4.cell
          obtain ⟨W5, r5, hC5, hB5⟩ := hC4.drop (x := least (run q0 (os.take i)).2.2.M) (hC4.km.i64 (HP.out.2.2.2.2.2.2.2.least hz')) 0 (n' := (run q0 (os.take i)).2.2.n - 1) (by rw [HP.out.2.2.2.2.2.2.2.least hz']; simp; omega)
          obtain ⟨g, cp, W, r, hC, hB⟩ := hC5.err HP.out.2.2.2.2.1 0 (H := W5.heap.size) rfl
          have HN := Lib.hid (cpi_next HP.out.1 (e := 0) (p := [least (run q0 (os.take i)).2.2.M]) (s := ⟨(run q0 (os.take i)).2.2.n - 1, delM (run q0 (os.take i)).2.2.M (least (run q0 (os.take i)).2.2.M)⟩) (by simp [step, hz]) hC HP.out.2.2.1 ((hb3.mono HP.out.2.1.base).trans (hB4.trans (hB5.trans hB))))
          clear hC hB hC3 hC4 hC5 hB4 hB5 hb3
          go_wp2_with (first | (at_builtin; refine wpList_append_eq rfl (.tmp 75) (.tmp 77) 24 rfl rfl rfl r4 ?_) | (at_builtin; refine wpList_append_eq rfl (.tmp 88) (.tmp 90) 23 rfl rfl rfl r ?_))
          go_roundg k
          case measure => omega
          case rel => exact ⟨i + 1, by go_num, by omega, HN⟩
      · cases hM : ((run q0 (os.take i)).2.2.M x).isSome with
        | false =>
          rw [hM] at hlook
          obtain ⟨g, cp, W, r, hC, hB⟩ := HP.out.2.1.err HP.out.2.2.2.2.1 3 (H := wr.heap.size + 1 + 1) (by simp)
          have HN := Lib.hid (cpi_next HP.out.1 (e := 3) (p := []) (s := (run q0 (os.take i)).2.2) (by simp [step, hM]) (by simpa using hC) HP.out.2.2.1 hB)
          clear hC hB
          go_wp2_with (at_builtin; refine wpList_append_eq rfl (.tmp 88) (.tmp 90) 23 rfl rfl rfl r ?_)
          go_roundg k
          case measure => omega
          case rel => exact ⟨i + 1, by go_num, by omega, HN⟩
        | true =>
          rw [hM] at hlook
          have hp := HP.out.2.2.2.2.2.2.2.pos hM
          obtain ⟨W3, r1, hC1, hB1⟩ := HP.out.2.1.drop HP.out.2.2.2.1 0 (n' := (run q0 (os.take i)).2.2.n - 1) (by rw [hM]; simp; omega)
          obtain ⟨g, cp, W, r, hC, hB⟩ := hC1.err HP.out.2.2.2.2.1 0 (H := W3.heap.size) rfl
          have HN := Lib.hid (cpi_next HP.out.1 (e := 0) (p := []) (s := ⟨(run q0 (os.take i)).2.2.n - 1, delM (run q0 (os.take i)).2.2.M x⟩) (by simp [step, hM]) (by simpa using hC) HP.out.2.2.1 (hB1.trans hB))
          clear hC hB hC1 hB1
          go_wp2_with (at_builtin; refine wpList_append_eq rfl (.tmp 88) (.tmp 90) 23 rfl rfl rfl r ?_)
          go_roundg k
          case measure => omega
          case rel => exact ⟨i + 1, by go_num, by omega, HN⟩
      · cases hM : ((run q0 (os.take i)).2.2.M x).isSome with
        | false =>
          rw [hM] at hlook
          obtain ⟨g, cp, W, r, hC, hB⟩ := HP.out.2.1.err HP.out.2.2.2.2.1 3 (H := wr.heap.size + 1 + 1) (by simp)
          have HN := Lib.hid (cpi_next HP.out.1 (e := 3) (p := []) (s := (run q0 (os.take i)).2.2) (by simp [step, hM]) (by simpa using hC) HP.out.2.2.1 hB)
          clear hC hB
          go_wp2_with (at_builtin; refine wpList_append_eq rfl (.tmp 88) (.tmp 90) 23 rfl rfl rfl r ?_)
          go_roundg k
          case measure => omega
          case rel => exact ⟨i + 1, by go_num, by omega, HN⟩
        | true =>
          rw [hM] at hlook
          obtain ⟨W3, r1, hC1, hB1⟩ := HP.out.2.1.store (hi', lo) HP.out.2.2.2.1 HP.out.2.2.2.2.2.2.1 (n' := (run q0 (os.take i)).2.2.n) (by rw [hM]; rfl)
          obtain ⟨g, cp, W, r, hC, hB⟩ := hC1.err HP.out.2.2.2.2.1 0 (H := W3.heap.size) rfl
          have HN := Lib.hid (cpi_next HP.out.1 (e := 0) (p := []) (s := ⟨(run q0 (os.take i)).2.2.n, updM (run q0 (os.take i)).2.2.M x (hi', lo)⟩) (by simp [step, hM]) (by simpa using hC) HP.out.2.2.1 (hB1.trans hB))
          clear hC hB hC1 hB1
          go_wp2_with (at_builtin; refine wpList_append_eq rfl (.tmp 88) (.tmp 90) 23 rfl rfl rfl r ?_)
          go_roundg k
          case measure => omega
          case rel => exact ⟨i + 1, by go_num, by omega, HN⟩

end Go.Proofs.Ytbckppflfgdblaa
