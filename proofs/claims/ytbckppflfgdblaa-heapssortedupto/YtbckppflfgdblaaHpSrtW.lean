/- HeapsSorted returns true for every argument of modest size: the walk. -/
import Derived.Test.YtbckppflfgdblaaHpSort
import Derived.Test.YtbckppflfgdblaaHpSrt
import Derived.Test.YtbckppflfgdblaaHpCat
import Derived.Test.YtbckppflfgdblaaHp42
namespace Go.Proofs.Ytbckppflfgdblaa
open Go.RowKit Go.Maps

theorem Came.play3 {w w1 : World} {A : Option Addr} {cap b off n : Nat} {os : List Op4} (h : Came w A cap b off os) (hn : os.length = n) (hb : Below w.heap.size w w1) :
    Calls Try.prog 8 #[.slice A n cap] w1 fun e w' => ∃ E P L, e = .returned (.tuple #[E, P, L]) ∧ Res os w E P L w' := by
  subst hn
  have h' := h.below hb
  refine (play_any (fun h0 => ?_) h'.ops h'.lt h'.ids (by have := h.size; omega)).mono ?_
  · rcases h.at_ with ⟨a, rfl, ha⟩ | ⟨_, rfl, _⟩
    · rw [ha h0]
    · cases h0
  · rintro e w' ⟨E, P, L, rfl, k1, k2, k3, k4⟩
    exact ⟨E, P, L, rfl, nums_base k1, nums_base k2, nums_base k3, hb.trans (k4.mono hb.size)⟩

/-- The operations with i pops behind them. -/
structure SrtI (os : List Op4) (W1 : World) (i : Nat) (v : Value) (wr : World) : Prop where
  own : OwnOps W1.heap.size wr v (os ++ pops i)
  below : Below W1.heap.size W1 wr
theorem SrtI.next {os : List Op4} {W1 : World} {i : Nat} {v : Value} {wr V : World} (h : SrtI os W1 i v wr) (hn : os.length + i ≤ 10000000) (hV : wr.alloc (.cells #[.int .i64 2, .int .i64 0, .int .u64 0, .int .u64 0] 37) = V) :
    ∃ v' W2, (Builtin.append_ #[22, 22] 22 #[v, .slice (some ⟨wr.heap.size, 0, none⟩) 1 1]).run Try.prog V = .ok v' W2 ∧ Hid (SrtI os W1 (i + 1) v' W2) := by
  have hb : Below wr.heap.size wr V := by rw [← hV]; exact (Below.refl _ _).alloc (Nat.le_refl _) _
  have hbl : V.heap[wr.heap.size]? = some (.cells (opCells [⟨2, 0, 0, 0⟩]).toArray 37 (0, 0)) := by rw [← hV]; exact heap_alloc_new wr _
  have hb1 := h.below.trans (hb.mono h.below.size)
  have hl := pops_length i
  obtain ⟨g, cap, W2, hr, h1, h2, _⟩ := app_ops (h.own.below hb) hb1.size (by rw [List.length_append]; omega) hbl
  refine ⟨_, W2, hr, Lib.hid ⟨?_, hb1.trans (h2.below hb1.size (fun k hk => (World.ownsRow.lt (h.own.below hb) k hk).1))⟩⟩
  rw [pops_succ, ← List.append_assoc]
  exact h1
theorem SrtI.play {os : List Op4} {W1 : World} {i : Nat} {v : Value} {wr : World} (h : SrtI os W1 i v wr) (hid : ∀ o ∈ os, I64 o.id) (hn : os.length + i ≤ 10000000) :
    Calls Try.prog 8 #[v] wr fun e w' => ∃ E P L, e = .returned (.tuple #[E, P, L]) ∧ Res (os ++ pops i) W1 E P L w' := by
  have hl := pops_length i
  exact play_own h.own (fun o ho => by rcases List.mem_append.1 ho with h1 | h1; exact hid o h1; exact pops_ids o h1) (by rw [List.length_append]; omega) h.below

def S3 (W2 W3 : World) (v : Value) (xs : List Int) : Prop := NumsIs 3 W2.heap.size W3 v (sorted xs) ∧ Below W2.heap.size W2 W3
theorem tail1 {W2 : World} {B l capL : Nat} {AL : Option Addr} {xs : List Int} (h : NumsIs 3 B W2 (.slice AL l capL) xs) (hl : xs.length = l) (hn : l ≤ 10000000) :
    Calls Try.prog 14 #[.func (.func 28) #[] #[.pointer (some ⟨W2.heap.size, 0, none⟩)]] (W2.alloc (.cells #[.slice AL l capL] 24)) fun e W3 => ∃ v, e = .returned v ∧ S3 W2 W3 v xs := by
  subst hl
  have hb : Below W2.heap.size W2 (W2.alloc (.cells #[.slice AL xs.length capL] 24)) := (Below.refl _ _).alloc (Nat.le_refl _) _
  have hs : W2.heap.size < (W2.alloc (.cells #[.slice AL xs.length capL] 24)).heap.size := by simp
  refine (sorted_ints (xs := xs) (A := AL) (cap := capL) (by omega) hs (cell_of_row _ _ _ _ _ _ (heap_alloc_new W2 _)) ?_).mono ?_
  · intro h0
    obtain ⟨A', cap', e, hA⟩ := (h.below hb).form
    obtain ⟨g, hg, hc⟩ := hA h0
    injection e with e1 e2 e3
    rw [hg] at e1
    refine ⟨g, 0, e1, ?_, fun j hj => ?_⟩
    · exact World.block_lt_of_cell? _ _ (hc 0 h0)
    · rw [Nat.zero_add, hc j hj, List.getD_eq_getElem?_getD]
  · rintro e W3 ⟨v, rfl, k1, k2⟩
    exact ⟨v, rfl, ⟨k1.1, k1.2.imp id (fun ⟨g, c, cur, a, b, r⟩ => ⟨g, c, cur, a, by omega, r⟩)⟩, hb.trans (k2.mono hb.size)⟩
theorem tail2 {W2 W3 : World} {B1 B2 : Nat} {v P L : Value} {ps xs : List Int} (hP : NumsIs 3 B1 W2 P ps) (hL : NumsIs 3 B2 W2 L xs) (h3 : S3 W2 W3 v xs) (hn : ps.length + xs.length ≤ 10000000) :
    Calls Try.prog 16 #[.slice (some ⟨W3.heap.size, 0, none⟩) 2 2] (W3.alloc (.cells #[P, L] 24)) fun e W4 => ∃ u, e = .returned u ∧ NumsIs 3 0 W4 u (ps ++ xs) ∧ Below W3.heap.size W3 W4 := by
  have hb : Below W3.heap.size W3 (W3.alloc (.cells #[P, L] 24)) := (Below.refl _ _).alloc (Nat.le_refl _) _
  have hb2 := h3.2.trans (hb.mono h3.2.size)
  have hnew := heap_alloc_new W3 (.cells #[P, L] 24)
  refine (concat_ints ⟨B1, hP.below hb2⟩ ⟨B2, hL.below hb2⟩ (cell_of_row _ _ _ _ _ _ hnew) (cell_of_row _ _ _ _ _ _ hnew) (by omega)).mono ?_
  rintro e W4 ⟨u, rfl, k1, k2⟩
  exact ⟨u, rfl, nums_base k1, hb.trans (k2.mono hb.size)⟩
theorem tail3 {W2 W3 W4 : World} {B : Nat} {v P' u : Value} {xs zs : List Int} (hP : NumsIs 3 B W2 P' zs) (h3 : S3 W2 W3 v xs) (hu : NumsIs 3 0 W4 u zs) (hb : Below W3.heap.size W3 W4) (hn : zs.length ≤ 10000000) :
    Calls Try.prog 11 #[P', u] W4 fun e W5 => e = .returned (.bool true) ∧ Below W3.heap.size W3 W5 := by
  have hb2 := h3.2.trans (hb.mono h3.2.size)
  refine (equal_ints (hP.below hb2) hu (by omega)).mono ?_
  rintro e w' ⟨rfl, j, rfl⟩
  exact ⟨by simp, hb.os, hb.tape, hb.output, hb.size, hb.block⟩
theorem tail4 {W2 W3 W5 : World} {v : Value} {xs : List Int} {l : Nat} (h3 : S3 W2 W3 v xs) (hb : Below W3.heap.size W3 W5) (hl : xs.length = l) (hd : xs.Pairwise (fun a b => a ≠ b)) (hn : l ≤ 10000000) :
    Calls Try.prog 17 #[v] W5 fun e W6 => ∃ A c, e = .returned (.slice A l c) ∧ Below W2.heap.size W2 W6 := by
  have hs := sorted_length xs
  refine (compact_ints (h3.1.below hb) (by omega)).mono ?_
  rintro e W6 ⟨A, c, rfl, k⟩
  have e1 : (Lib.compact (sorted xs)).length = l := (compact_sorted hd).trans hl
  rw [e1]
  have hb2 := h3.2.trans (hb.mono h3.2.size)
  exact ⟨A, c, rfl, hb2.trans k⟩

set_option maxRecDepth 100000 in
set_option maxHeartbeats 4000000 in
theorem sorted_law {w : World} {A : Option Addr} {cap b off n : Nat} {os : List Op4} (h : Came w A cap b off os) (hlen : os.length = n) (hsm : n ≤ 2000000) :
    Calls Try.prog 4 #[.slice A n cap] w fun e w' => e = .returned (.bool true) ∧ Below w.heap.size w w' := by
  obtain ⟨l, hl⟩ : ∃ l, (run q0 os).2.2.n = l := ⟨_, rfl⟩
  have hl2 : l ≤ n := by have := (run_bound q0 os).1; have h0 : q0.n = 0 := rfl; omega
  have HC := Lib.hid (And.intro h (And.intro hlen hl))
  have HAl := Lib.hid (alive_any w)
  clear h hlen hl
  go_enter Try.func4, Try.ntmps4
  go_wp2_with fail
  refine HAl.out.mono ?_
  rintro e w1 ⟨rfl, hb1⟩
  have HPl := Lib.hid (HC.out.1.play3 HC.out.2.1 hb1)
  clear hb1
  go_wp2_with fail
  refine HPl.out.mono ?_
  rintro e W1 ⟨E1, P1, L1, rfl, hR1⟩
  have HR1 := Lib.hid hR1
  clear HPl
  have HCl := Lib.hid (show Calls Try.prog 13 #[.slice A n cap] W1 fun e w3 => ∃ v, e = .returned v ∧ OwnOps W1.heap.size w3 v os ∧ Below W1.heap.size W1 w3 from by
    have h' := HC.out.1.below hR1.2.2.2
    have := clone_ops h'.ops h'.lt h'.at_ (by have := h'.size; omega)
    rwa [HC.out.2.1] at this)
  obtain ⟨AP, capP, hP, -⟩ := hR1.2.1.form
  obtain ⟨AL, capL, hL, -⟩ := hR1.2.2.1.form
  rw [drainF_length, HC.out.2.2] at hL
  obtain ⟨p, hp⟩ : ∃ p, (run q0 os).2.1.length = p := ⟨_, rfl⟩
  rw [hp] at hP
  clear hp hR1
  subst hP hL
  go_wp2_with fail
  refine HCl.out.mono ?_
  rintro e w3 ⟨v0, rfl, hO, hb3⟩
  have HS := Lib.hid (show SrtI os W1 0 v0 w3 from ⟨by simpa [pops] using hO, hb3⟩)
  clear HCl hO hb3
  go_wp2
  go_loopg [6, 23] l (fun k v c wr => ∃ i : Nat, c = .int .i64 (i : Int) ∧ i + k = l ∧ Hid (SrtI os W1 i v wr))
  case atStart => exact ⟨0, rfl, by omega, HS⟩
  case round =>
    clear HS
    obtain ⟨i, rfl, hik, HI⟩ := hrel
    cases gk with
    | zero =>
      obtain rfl : i = l := by omega
      have HE := Lib.hid (HI.out.play HC.out.1.ids (by rw [HC.out.2.1]; omega))
      go_wp2_with fail
      refine HE.out.mono ?_
      rintro e W2 ⟨E2, P2, L2, rfl, hR2⟩
      have HR2 := Lib.hid hR2
      clear HE HI
      have hsp := sorted_spec os
      rw [HC.out.2.2] at hsp
      obtain ⟨AN, capN, hN, -⟩ := hR2.2.2.1.form
      rw [drainF_length, hsp.2] at hN
      subst hN
      have k1 := HR1.out.below hR2.2.2.2
      have kP := k1.2.1
      have kL := k1.2.2.1
      have kP2 := hR2.2.1
      rw [hsp.1] at kP2
      rw [HC.out.2.2] at kL
      have hd := drain_apart (good_q0.run os)
      rw [HC.out.2.2] at hd
      have hbp := (run_bound q0 os).2
      have hdl := drainF_length i (run q0 os).2.2.M
      rw [HC.out.2.1] at hbp
      generalize drainF i (run q0 os).2.2.M = xs at kL kP2 hd hdl
      generalize (run q0 os).2.1 = ps at kP kP2 hbp
      have HK := Lib.hid (And.intro kP (And.intro kL (And.intro kP2 (And.intro hd (And.intro hdl hbp)))))
      clear hsp k1 kP kL kP2 hd hbp hdl hR2
      have HV := Lib.hid (values_ints AL i capL W2)
      have HT1 := Lib.hid (tail1 HK.out.2.1 HK.out.2.2.2.2.1 (by omega))
      go_wp2_with fail
      refine HV.out.mono ?_
      rintro e w5 ⟨rfl, rfl⟩
      clear HV
      go_wp2_with fail
      refine HT1.out.mono ?_
      rintro e W3 ⟨v3, rfl, h3⟩
      have H3 := Lib.hid h3
      have HT2 := Lib.hid (tail2 HK.out.1 HK.out.2.1 h3 (by have := HK.out.2.2.2.2; omega))
      clear h3 HT1
      go_wp2_with fail
      refine HT2.out.mono ?_
      rintro e W4 ⟨u4, rfl, h4, hb4⟩
      have HT3 := Lib.hid (tail3 HK.out.2.2.1 H3.out h4 hb4 (by rw [List.length_append]; have := HK.out.2.2.2.2; omega))
      clear h4 hb4 HT2
      go_wp2_with fail
      refine HT3.out.mono ?_
      rintro e W5 ⟨rfl, hb5⟩
      have HT4 := Lib.hid (tail4 H3.out hb5 HK.out.2.2.2.2.1 HK.out.2.2.2.1 (by omega))
      clear hb5 HT3
      go_wp2_with fail
      refine HT4.out.mono ?_
      rintro e W6 ⟨A6, c6, rfl, hb6⟩
      have HB6 := Lib.hid hb6
      clear hb6 HT4
      go_wp2
      go_ret
      have a1 := HR1.out.2.2.2
      have a2 := a1.trans (HR2.out.2.2.2.mono a1.size)
      exact ⟨rfl, a2.trans (HB6.out.mono a2.size)⟩
    | succ k =>
      have hi : i < l := by omega
      have i1 : (i : Int) < (l : Int) := by omega
      obtain ⟨V, hV⟩ : ∃ V, wr.alloc (.cells #[.int .i64 2, .int .i64 0, .int .u64 0, .int .u64 0] 37) = V := ⟨_, rfl⟩
      obtain ⟨v', W2, hr, HN⟩ := HI.out.next (by rw [HC.out.2.1]; omega) hV
      clear HI
      go_wp2_with (at_builtin; refine wpList_append_eq rfl (.tmp 25) (.tmp 27) 22 rfl rfl rfl hr ?_)
      go_roundg k
      case measure => omega
      case rel => exact ⟨i + 1, by go_num, by omega, HN⟩

end Go.Proofs.Ytbckppflfgdblaa
