/- Lists of lists: the reference's SameLists; the keep laws' sum. -/
import Derived.Test.YtgphbplmkegdeaaDv5
import Derived.Test.YtgphbplmkegdeaaIn3a
namespace Go.Proofs.Ytgphbplmkegdeaa
open Go.RowKit Go.Maps

set_option maxRecDepth 100000 in
set_option maxHeartbeats 8000000 in
theorem same_lists {w : World} {A B : Option Addr} {fs : List (List Int)} (h1 : ListsIn w A fs) (h2 : ListsIn w B fs) (c1 c2 : Nat) :
    Calls Try.prog 17 #[.slice A fs.length c1, .slice B fs.length c2] w fun e w' => e = .returned (.bool true) ∧ ∃ k, w' = w.drewN k := by
  have hlen := h1.len
  obtain ⟨n, hn⟩ : ∃ n, fs.length = n := ⟨_, rfl⟩
  have HN := Lib.hid hn
  have H1 := Lib.hid h1
  have H2 := Lib.hid h2
  rw [hn] at hlen ⊢
  have e1 : ((n : Int) != (n : Int)) = false := by simp
  clear hn h1 h2
  go_enter Try.func17, Try.ntmps17
  go_wp2_with fail
  clear e1
  go_loopg [14] n (fun k c wr => ∃ i t : Nat, c = .int .i64 (i : Int) ∧ i + k = n ∧ wr = w.drewN t)
  case atStart => exact ⟨0, 0, rfl, by omega, rfl⟩
  case round =>
    obtain ⟨i, t, rfl, hik, rfl⟩ := hrel
    cases gk with
    | zero =>
      obtain rfl : i = n := by omega
      go_wp2_with fail
      go_ret
      exact ⟨rfl, t, rfl⟩
    | succ k =>
      have hi : i < n := by omega
      have i1 : (i : Int) < (n : Int) := by omega
      obtain ⟨b1, o1, f, B1, k1, rfl, hf, d1, hin1, -, -⟩ := H1.out.next (i := i) (by have := HN.out; omega)
      obtain ⟨b2, o2, f2, B2, k2, rfl, hf2, d2, hin2, -, -⟩ := H2.out.next (i := i) (by have := HN.out; omega)
      obtain rfl : f = f2 := by
        rw [hf] at hf2
        injection hf2
      obtain ⟨m, hm⟩ : ∃ m, f.length = m := ⟨_, rfl⟩
      have hml := hin1.len
      have HM := Lib.hid hm
      have HI1 := Lib.hid hin1
      have HI2 := Lib.hid hin2
      rw [hm] at d1 d2 hml
      have e2 : ((m : Int) != (m : Int)) = false := by simp
      have HIK := Lib.hid hik
      clear hm hin1 hin2 hf hf2 hik
      go_upto_region 6 with fail
      go_quiet (fail)
      clear e2
      go_wp2_with fail
      go_loopg [33] m (fun z c wi => ∃ j s : Nat, c = .int .i64 (j : Int) ∧ j + z = m ∧ wi = w.drewN s)
      case atStart => exact ⟨0, t + nq, rfl, by omega, rfl⟩
      case round =>
        obtain ⟨j, s, rfl, hjk, rfl⟩ := hrel
        cases gk with
        | zero =>
          obtain rfl : j = m := by omega
          clear HI1 HI2 HM H1 H2 HN
          go_wp2_with fail
          go_roundg k
          case measure => omega
          case rel => exact ⟨i + 1, s, by go_num, by have := HIK.out; omega, rfl⟩
        | succ z =>
          have hj : j < m := by omega
          have j1 : (j : Int) < (m : Int) := by omega
          obtain ⟨b3, o3, x, rfl, hx, d3, -⟩ := HI1.out.next (i := j) (by rw [HM.out]; exact hj)
          obtain ⟨b4, o4, y, rfl, hy, d4, -⟩ := HI2.out.next (i := j) (by rw [HM.out]; exact hj)
          obtain rfl : x = y := by
            rw [hx] at hy
            injection hy
          have HJK := Lib.hid hjk
          clear hx hy HI1 HI2 H1 H2 HN hjk
          go_upto_region 11 with fail
          go_quiet (fail)
          go_wp2_with fail
          go_roundg z
          case measure => omega
          case rel => exact ⟨j + 1, s + nq, by go_num, by have := HJK.out; omega, rfl⟩

/-! ### sum -/
def laidT (w : World) (k b : Int) : World := w.alloc (.cells #[.int .i64 k, .int .i64 b] 35)
theorem laidT_at (w : World) (k b : Int) : (laidT w k b).cell? ⟨w.heap.size, 0, none⟩ = some (.int .i64 k) ∧ (laidT w k b).cell? ⟨w.heap.size, 1, none⟩ = some (.int .i64 b) ∧ Below w.heap.size w (laidT w k b) :=
  ⟨cell_of_row _ _ 0 _ _ _ (heap_alloc_new w _), cell_of_row _ _ 1 _ _ _ (heap_alloc_new w _), (Below.refl _ _).alloc (Nat.le_refl _) _⟩
theorem flowOf_snoc (k : Nat) (l : List (Nat × Int)) (a : Nat) (b : Int) : tt (flowOf k (l ++ [(a, b)])) = tt (flowOf k l) + if a = k then b else 0 := by
  rw [flowOf_append, tt_append]
  unfold flowOf
  rw [List.filterMap_cons]
  by_cases h : a = k
  · rw [if_pos h, if_pos h]
    simp [tt]
  · rw [if_neg h, if_neg h]
    simp [tt]
theorem flowOf_bound {k : Nat} : ∀ {l : List (Nat × Int)}, (∀ p ∈ l, 0 ≤ p.2 ∧ p.2 ≤ 1500) → 0 ≤ tt (flowOf k l) ∧ tt (flowOf k l) ≤ 1500 * (l.length : Int)
  | [], _ => by simp [flowOf, tt]
  | (a, b) :: l, h => by
    have ih := flowOf_bound (k := k) (l := l) fun p hp => h p (List.mem_cons_of_mem _ hp)
    have hb := h (a, b) (by simp)
    have e : tt (flowOf k ((a, b) :: l)) = (if a = k then b else 0) + tt (flowOf k l) := by
      unfold flowOf
      rw [List.filterMap_cons]
      by_cases h : a = k
      · rw [if_pos h, if_pos h]; simp [tt]
      · rw [if_neg h, if_neg h]; simp
    rw [e, List.length_cons]
    split <;> omega

set_option maxRecDepth 100000 in
set_option maxHeartbeats 4000000 in
theorem sum_any {w : World} {A : Option Addr} {gs : List (Nat × Int)} (h : SentIn w A gs) (hl : gs.length ≤ 6400) (hb : ∀ p ∈ gs, 0 ≤ p.2 ∧ p.2 ≤ 1500) (c k : Nat) :
    Calls Try.prog 21 #[.slice A gs.length c, .int .i64 (k : Int)] w fun e w' => e = .returned (.int .i64 (tt (flowOf k gs))) ∧ Below w.heap.size w w' := by
  obtain ⟨n, hn⟩ : ∃ n, gs.length = n := ⟨_, rfl⟩
  have HN := Lib.hid (And.intro hn hb)
  have HG := Lib.hid (fun W (hW : Below w.heap.size w W) => h.below hW)
  rw [hn] at hl ⊢
  clear hn h hb
  go_enter Try.func21, Try.ntmps21
  go_wp2_with fail
  go_loopg [5, 10] n (fun z s d wi => ∃ (i : Nat) (S : Int), s = .int .i64 S ∧ d = .int .i64 (i : Int) ∧ i + z = n ∧ Hid (S = tt (flowOf k (gs.take i)) ∧ Below w.heap.size w wi))
  case atStart => exact ⟨0, 0, rfl, rfl, by omega, Lib.hid ⟨rfl, Below.refl _ _⟩⟩
  case round =>
    obtain ⟨i, S, rfl, rfl, hik, HI⟩ := hrel
    cases gk with
    | zero =>
      obtain rfl : i = n := by omega
      have HZ : Hid (S = tt (flowOf k gs)) := Lib.hid (by rw [HI.out.1, List.take_of_length_le (by have := HN.out.1; omega)])
      have HB := Lib.hid HI.out.2
      clear HI HN HG
      go_wp2_with fail
      go_ret
      exact ⟨ret_i64 HZ.out, HB.out⟩
    | succ z =>
      have hi : i < n := by omega
      have i1 : (i : Int) < (n : Int) := by omega
      obtain ⟨b0, o0, a, b, rfl, hx, ⟨d0, d1⟩, -⟩ := (HG.out _ HI.out.2).next (i := i) (by have := HN.out.1; omega)
      have hbb := HN.out.2 (a, b) (List.mem_of_getElem? hx)
      have hsb := flowOf_bound (k := k) (l := gs.take i) fun p hp => HN.out.2 p (List.mem_of_mem_take hp)
      rw [← HI.out.1, List.length_take] at hsb
      obtain ⟨T0, T1, TB⟩ := laidT_at wr (a : Int) b
      have HB : Hid (Below w.heap.size w (laidT wr (a : Int) b)) := Lib.hid (HI.out.2.trans (TB.mono HI.out.2.size))
      have hS : tt (flowOf k (gs.take (i + 1))) = S + if a = k then b else 0 := by rw [take_snocS hx, flowOf_snoc, HI.out.1]
      have HSB : Hid (-1 < S ∧ S ≤ 9600000 ∧ 0 ≤ b ∧ b ≤ 1500) := Lib.hid (by dsimp only at hbb; omega)
      have HIK := Lib.hid hik
      by_cases hak : a = k
      · rw [if_pos hak] at hS
        have HS := Lib.hid hS
        have e1 : ((a : Int) == (k : Int)) = true := by rw [hak]; simp
        have e2 : wrap64 (S + b) = S + b := IntWalk.wrap64_in _ (by have := HSB.out; constructor <;> omega)
        clear hx hbb hsb hS HI HG HN TB hak hik
        go_upto_region 5 with fail
        change Code.wp _ _ _ _ (laidT wr (a : Int) b)
        clear d0 d1
        generalize laidT wr (a : Int) b = w1 at *
        generalize wr.heap.size = g at *
        generalize (a : Int) = a at *
        go_wp2_with fail
        go_roundg z
        case measure => omega
        case rel => exact ⟨i + 1, S + b, by rw [e2], by go_num, by have := HIK.out; omega, Lib.hid ⟨HS.out.symm, HB.out⟩⟩
      · rw [if_neg hak, Int.add_zero] at hS
        have HS := Lib.hid hS
        have e1 : ((a : Int) == (k : Int)) = false := by simp; omega
        clear hx hbb hsb hS HI HG HN TB hak hik
        go_upto_region 5 with fail
        change Code.wp _ _ _ _ (laidT wr (a : Int) b)
        clear d0 d1
        generalize laidT wr (a : Int) b = w1 at *
        generalize wr.heap.size = g at *
        generalize (a : Int) = a at *
        go_wp2_with fail
        go_roundg z
        case measure => omega
        case rel => exact ⟨i + 1, S, rfl, by go_num, by have := HIK.out; omega, Lib.hid ⟨HS.out.symm, HB.out⟩⟩
end Go.Proofs.Ytgphbplmkegdeaa
