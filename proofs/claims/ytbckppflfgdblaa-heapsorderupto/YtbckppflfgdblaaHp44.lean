/- HeapsOrder returns true for every argument of modest size: the walk. -/
import Derived.Test.YtbckppflfgdblaaHp43
namespace Go.Proofs.Ytbckppflfgdblaa
open Go.RowKit Go.Maps

def KeysAt (w : World) (b off : Nat) (ks : List (Int × Int)) : Prop :=
  ∀ j k, ks[j]? = some k → w.cell? ⟨b, off + j * 2, none⟩ = some (.int .u64 k.1) ∧ w.cell? ⟨b, off + j * 2 + 1, none⟩ = some (.int .u64 k.2)
structure CameK (w : World) (A : Option Addr) (b off n : Nat) (ks : List (Int × Int)) : Prop where
  len : ks.length = n
  keys : KeysAt w b off ks
  at_ : 0 < n → A = some ⟨b, off, none⟩
  small : n ≤ 2000000

theorem ab_start {w w1 : World} (ks : List (Int × Int)) (hb : Below w.heap.size w w1) : AB w ks 0 (.slice none 0 0) (.slice none 0 0) w1 :=
  ⟨World.ownsRow_nil _ _ _ _, World.ownsRow_nil _ _ _ _, fun g hg => (by cases hg), fun _ => rfl, hb⟩
theorem keys_cell {w wr : World} {A : Option Addr} {b off n i : Nat} {ks : List (Int × Int)} (h : CameK w A b off n ks) (hi : i < n) (hb : Below w.heap.size w wr) :
    wr.cell? ⟨b, off + i * 2, none⟩ = some (.int .u64 (ks.getD i (0, 0)).1) ∧ wr.cell? ⟨b, off + i * 2 + 1, none⟩ = some (.int .u64 (ks.getD i (0, 0)).2) := by
  have e : ks[i]? = some (ks.getD i (0, 0)) := by
    have hl := h.len
    rw [List.getElem?_eq_getElem (by omega), List.getD_eq_getElem?_getD, List.getElem?_eq_getElem (by omega)]; rfl
  obtain ⟨h1, h2⟩ := h.keys i _ e
  exact ⟨by rw [(bcell hb).1 _ _ (World.block_lt_of_cell? _ _ h1)]; exact h1, by rw [(bcell hb).1 _ _ (World.block_lt_of_cell? _ _ h2)]; exact h2⟩

theorem order_end {w wr : World} {ks : List (Int × Int)} {n : Nat} {a b : Value} (h : AB w ks n a b wr) (hn : n ≤ 2000000) :
    (Calls Try.prog 8 #[a] wr fun e w' => ∃ E P L, e = .returned (.tuple #[E, P, L]) ∧ Res (pushOps ks n) wr E P L w') ∧
    (∀ W1, Below wr.heap.size wr W1 → Calls Try.prog 8 #[b] W1 fun e w' => ∃ E P L, e = .returned (.tuple #[E, P, L]) ∧ Res (pushOps ks n).reverse W1 E P L w') := by
  have hl := pushOps_length ks n
  constructor
  · have hA := ops_base h.own1 (Nat.zero_le _)
    obtain ⟨A, cap, g, e, h1, h2, h3⟩ := h.own1.form
    rw [e]
    refine (play_any h1 h2 h3 (pushOps_ids ks (by omega)) (by omega)).mono ?_
    rintro e w' ⟨E, P, L, rfl, k1, k2, k3, k4⟩
    exact ⟨E, P, L, rfl, nums_base k1, nums_base k2, nums_base k3, k4⟩
  · intro W1 hb
    obtain ⟨A, cap, g, e, h1, h2, h3⟩ := (h.own2.below hb).form
    rw [e]
    refine (play_any h1 h2 h3 (fun o ho => pushOps_ids ks (n := n) (by omega) o (by simpa using ho)) (by rw [List.length_reverse]; omega)).mono ?_
    rintro e w' ⟨E, P, L, rfl, k1, k2, k3, k4⟩
    exact ⟨E, P, L, rfl, nums_base k1, nums_base k2, nums_base k3, k4⟩
theorem order_eq {ks : List (Int × Int)} {n : Nat} {V W1 wc : World} {E P L E' P' L' : Value} (h1 : Res (pushOps ks n) V E P L W1) (h2 : Res (pushOps ks n).reverse W1 E' P' L' wc) (hn : n ≤ 2000000) :
    (Calls Try.prog 11 #[L, L'] wc fun e w' => e = .returned (.bool true) ∧ Below wc.heap.size wc w') ∧ ∃ A cap, L = .slice A n cap := by
  have hp := pushOps_pushes ks n
  have hl := pushOps_length ks n
  have e1 := push_order hp
  have e2 := (push_run hp).1
  rw [hl, show q0.n = 0 from rfl, Nat.zero_add] at e2
  have k1 := h1.below h2.2.2.2
  have k2 := h2
  unfold Res at k1 k2
  rw [e1] at k2
  rw [e2] at k1 k2
  refine ⟨(equal_ints k1.2.2.1 k2.2.2.1 (by rw [drainF_length]; omega)).mono ?_, ?_⟩
  · rintro e w' ⟨rfl, j, rfl⟩
    exact ⟨by simp, rfl, rfl, rfl, Nat.le_refl _, fun _ _ => rfl⟩
  · obtain ⟨A, cap, e, _⟩ := k1.2.2.1.form
    rw [drainF_length] at e
    exact ⟨A, cap, e⟩

theorem order_vars {wr V : World} {hi lo x : Int} (hV : (wr.alloc (.cells #[.int .u64 hi, .int .u64 lo] 35)).alloc (.cells #[.int .i64 1, .int .i64 x, .int .u64 hi, .int .u64 lo] 37) = V) :
    Below wr.heap.size wr V ∧ wr.heap.size + 1 < V.heap.size ∧ V.cell? ⟨wr.heap.size + 1, 0, none⟩ = some (.int .i64 1) ∧ V.cell? ⟨wr.heap.size + 1, 1, none⟩ = some (.int .i64 x) ∧ V.cell? ⟨wr.heap.size + 1, 2, none⟩ = some (.int .u64 hi) ∧ V.cell? ⟨wr.heap.size + 1, 3, none⟩ = some (.int .u64 lo) := by
  subst hV
  have e : (wr.alloc (.cells #[.int .u64 hi, .int .u64 lo] 35)).heap.size = wr.heap.size + 1 := by simp
  have hn := heap_alloc_new (wr.alloc (.cells #[.int .u64 hi, .int .u64 lo] 35)) (.cells #[.int .i64 1, .int .i64 x, .int .u64 hi, .int .u64 lo] 37)
  rw [e] at hn
  refine ⟨((Below.refl _ _).alloc (Nat.le_refl _) _).alloc (by simp) _, by simp, ?_, ?_, ?_, ?_⟩
  all_goals exact cell_of_row _ _ _ _ _ _ hn

set_option maxRecDepth 100000 in
set_option maxHeartbeats 4000000 in
theorem order_law {w : World} {A : Option Addr} {cap b off n : Nat} {ks : List (Int × Int)} (h : CameK w A b off n ks) :
    Calls Try.prog 7 #[.slice A n cap] w fun e w' => e = .returned (.bool true) ∧ Below w.heap.size w w' := by
  have hsm := h.small
  have HC := Lib.hid h
  clear h
  have HAl := Lib.hid (alive_any w)
  go_enter Try.func7, Try.ntmps7
  go_wp2_with fail
  refine HAl.out.mono ?_
  rintro e w1 ⟨rfl, hb1⟩
  have HS := Lib.hid (ab_start ks hb1)
  clear hb1
  go_wp2
  go_loopg [3, 4, 18] n (fun k a b c wr => ∃ i : Nat, c = .int .i64 (i : Int) ∧ i + k = n ∧ Hid (AB w ks i a b wr))
  case atStart => exact ⟨0, rfl, by omega, HS⟩
  case round =>
    clear HS
    obtain ⟨i, rfl, hik, HI⟩ := hrel
    cases gk with
    | zero =>
      obtain rfl : i = n := by omega
      have HE := Lib.hid (order_end HI.out hsm)
      go_wp2_with fail
      refine HE.out.1.mono ?_
      rintro e w2 ⟨E1, P1, L1, rfl, hR1⟩
      have HR1 := Lib.hid hR1
      clear hR1
      go_wp2_with fail
      refine (HE.out.2 w2 HR1.out.2.2.2).mono ?_
      rintro e w3 ⟨E2, P2, L2, rfl, hR2⟩
      have HR2 := Lib.hid hR2
      clear hR2
      obtain ⟨hEq, A1, cap1, hL⟩ := order_eq HR1.out HR2.out hsm
      have HQ := Lib.hid hEq
      clear hEq
      have HL := Lib.hid hL
      obtain ⟨L1', hL'⟩ : ∃ L1', L1 = L1' := ⟨_, rfl⟩
      subst hL
      clear hL'
      go_wp2_with fail
      refine HQ.out.mono ?_
      rintro e w4 ⟨rfl, hb4⟩
      have HB := Lib.hid hb4
      clear hb4
      go_wp2
      go_ret
      have a1 := HI.out.below
      have a2 := a1.trans (HR1.out.2.2.2.mono a1.size)
      have a3 := a2.trans (HR2.out.2.2.2.mono a2.size)
      exact ⟨rfl, a3.trans (HB.out.mono a3.size)⟩
    | succ k =>
      have hi : i < n := by omega
      have hA1 := HC.out.at_ (by omega)
      subst hA1
      obtain ⟨d0, d1⟩ := keys_cell HC.out hi HI.out.below
      have i1 : (i : Int) < (n : Int) := by omega
      obtain ⟨x, hkk⟩ : ∃ x, ks.getD i (0, 0) = x := ⟨_, rfl⟩
      rw [hkk] at d0 d1
      obtain ⟨hi', lo⟩ := x
      simp only at d0 d1
      obtain ⟨V, hV⟩ : ∃ V, (wr.alloc (.cells #[.int .u64 hi', .int .u64 lo] 35)).alloc (.cells #[.int .i64 1, .int .i64 (i : Int), .int .u64 hi', .int .u64 lo] 37) = V := ⟨_, rfl⟩
      have HO := Lib.hid (order_vars hV)
      obtain ⟨s0, s1, s2, s3⟩ := HO.out.2.2
      have HW := Lib.hid (ways (HI.out.next HO.out.1) (by omega) (c := #[.int .i64 1, .int .i64 (i : Int), .int .u64 hi', .int .u64 lo]) (by unfold pushOp; rw [hkk]; rfl))
      have HN := Lib.hid (And.intro (not_own_new HI.out.own1 (wr.heap.size + 1) (by omega)) (not_own_new HI.out.own2 (wr.heap.size + 1) (by omega)))
      clear hkk
      obtain ⟨g1, c1, Wa, ra, _, ka, hja⟩ := HW.out.a1
      obtain ⟨g2, c2, Wb, rb, hjb⟩ := HW.out.a2 V.heap.size (V.heap.size + 1) (.inl ⟨rfl, rfl⟩)
      obtain ⟨g3, c3, Wc, rc, hjc⟩ := HW.out.a2 (V.heap.size + 1) V.heap.size (.inr ⟨rfl, rfl⟩)
      have p0 := ka _ _ s0 HO.out.2.1 HN.out.1
      have p1 := ka _ _ s1 HO.out.2.1 HN.out.1
      have p2 := ka _ _ s2 HO.out.2.1 HN.out.1
      have p3 := ka _ _ s3 HO.out.2.1 HN.out.1
      have hlt := HO.out.2.1
      clear ka HI
      go_wp2
      go_region_law (first
        | (refine step_append_eq rfl (.tmp 26) (.tmp 28) 22 rfl ?_ ?_ ra ?_; (focus (simp [Act.eval] <;> fail)); (focus (simp [Act.eval] <;> fail)))
        | (refine step_append_eq rfl (.tmp 26) (.tmp 28) 22 rfl ?_ ?_ rb ?_; (focus (simp [Act.eval] <;> fail)); (focus (simp [Act.eval] <;> fail)))
        | (refine step_append_eq rfl (.tmp 26) (.tmp 28) 22 rfl ?_ ?_ rc ?_; (focus (simp [Act.eval] <;> fail)); (focus (simp [Act.eval] <;> fail)))
        | (go_simp; go_at_call 22; (first | (with_reducible refine hja.out.mono ?_) | (with_reducible refine hjb.out.mono ?_) | (with_reducible refine hjc.out.mono ?_)); rintro e W9 ⟨b9, rfl, HF⟩))
      all_goals
        go_wp2
        go_roundg k
        case measure => omega
        case rel => exact ⟨i + 1, by go_num, by omega, HF⟩

end Go.Proofs.Ytbckppflfgdblaa
