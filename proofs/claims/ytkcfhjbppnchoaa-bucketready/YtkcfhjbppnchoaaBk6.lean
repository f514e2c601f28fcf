/- Shots in memory; bucket.byTime; slices.IsSortedFunc at it. -/
import Derived.Test.YtkcfhjbppnchoaaBk5
namespace Go.Proofs.Ytkcfhjbppnchoaa
open Go.RowKit Go.Maps

/-- Shots lie in memory, one behind the other. -/
structure ShotsIn (w : World) (A : Option Addr) (xs : List (Int × Int)) : Prop where
  at_ : 0 < xs.length → ∃ b off, A = some ⟨b, off, none⟩ ∧ b < w.heap.size ∧ ∀ j o, xs[j]? = some o → w.cell? ⟨b, off + j * 2, none⟩ = some (.int .i64 o.1) ∧ w.cell? ⟨b, off + j * 2 + 1, none⟩ = some (.int .i64 o.2)
  len : xs.length * 16 ≤ 140737488355328
theorem ShotsIn.below {w w' : World} {A : Option Addr} {xs : List (Int × Int)} (h : ShotsIn w A xs) (hb : Below w.heap.size w w') : ShotsIn w' A xs := by
  refine ⟨fun h0 => ?_, h.len⟩
  obtain ⟨b, off, e, hl, hc⟩ := h.at_ h0
  exact ⟨b, off, e, Nat.lt_of_lt_of_le hl hb.size, fun j o ho => ⟨(hb.cell (p := ⟨b, off + j * 2, none⟩) hl).trans (hc j o ho).1, (hb.cell (p := ⟨b, off + j * 2 + 1, none⟩) hl).trans (hc j o ho).2⟩⟩
theorem ShotsIn.next {w : World} {A : Option Addr} {xs : List (Int × Int)} (h : ShotsIn w A xs) {i : Nat} (hi : i < xs.length) : ∃ b off t n, A = some ⟨b, off, none⟩ ∧ xs[i]? = some (t, n) ∧ w.cell? ⟨b, off + i * 2, none⟩ = some (.int .i64 t) ∧ w.cell? ⟨b, off + i * 2 + 1, none⟩ = some (.int .i64 n) ∧ b < w.heap.size := by
  obtain ⟨b, off, e, hl, hc⟩ := h.at_ (by omega)
  have ho := hc i _ (List.getElem?_eq_getElem hi)
  exact ⟨b, off, xs[i].1, xs[i].2, e, List.getElem?_eq_getElem hi, ho.1, ho.2, hl⟩

/-- Is no shot ahead of the one before it? -/
def srt : List (Int × Int) → Bool
  | a :: b :: r => decide (a.1 ≤ b.1) && srt (b :: r)
  | _ => true
theorem srt_iff {xs : List (Int × Int)} : srt xs = true ↔ ∀ i a b, xs[i]? = some a → xs[i + 1]? = some b → a.1 ≤ b.1 := by
  match xs with
  | [] => simp [srt]
  | [a] => simp [srt]
  | a :: b :: r =>
    rw [srt, Bool.and_eq_true, decide_eq_true_iff, srt_iff (xs := b :: r)]
    constructor
    · rintro ⟨h1, h2⟩ i x y hx hy
      cases i with
      | zero =>
        simp only [List.getElem?_cons_zero, Option.some.injEq, Nat.zero_add, List.getElem?_cons_succ] at hx hy
        subst hx hy
        exact h1
      | succ i => exact h2 i x y (by simpa using hx) (by simpa using hy)
    · intro h
      exact ⟨h 0 a b rfl rfl, fun i x y hx hy => h (i + 1) x y (by simpa using hx) (by simpa using hy)⟩
theorem srt_false {xs : List (Int × Int)} {i : Nat} {a b : Int × Int} (ha : xs[i]? = some a) (hb : xs[i + 1]? = some b) (h : b.1 < a.1) : srt xs = false := by
  rw [Bool.eq_false_iff]
  intro e
  have := srt_iff.1 e i a b ha hb
  omega

set_option maxHeartbeats 1000000 in
theorem compare_any (x y : Int) (w : World) :
    Calls Try.prog 38 #[.int .i64 x, .int .i64 y] w fun e w' => e = .returned (.int .i64 (cmpI x y)) ∧ w = w' := by
  go_enter Try.func38, Try.ntmps38
  go_wp2
  all_goals (go_ret; refine ⟨?_, rfl⟩; unfold cmpI; (repeat' split) <;> first | rfl | (exfalso; omega))
set_option maxHeartbeats 1000000 in
theorem byTime_any (t1 n1 t0 n0 : Int) (w : World) :
    Calls Try.prog 30 #[.agg #[.int .i64 t1, .int .i64 n1], .agg #[.int .i64 t0, .int .i64 n0]] w fun e w' => e = .returned (.int .i64 (cmpI t1 t0)) ∧ Below w.heap.size w w' := by
  have H := Lib.hid (fun w => compare_any t1 t0 w)
  have b1 : Below w.heap.size w (w.alloc (.cells #[.int .i64 t1, .int .i64 n1] 36)) := (Below.refl _ _).alloc (Nat.le_refl _) _
  have HB := Lib.hid (b1.alloc b1.size (.cells #[.int .i64 t0, .int .i64 n0] 36))
  clear b1
  generalize cmpI t1 t0 = C at *
  go_enter Try.func30, Try.ntmps30
  go_wp2_with (go_at_call 38; (with_reducible refine (H.out _).mono ?_); rintro e w3 ⟨rfl, rfl⟩)
  go_ret
  exact ⟨rfl, HB.out⟩

set_option maxRecDepth 100000 in
set_option maxHeartbeats 4000000 in
theorem sorted_any {w : World} {A : Option Addr} {xs : List (Int × Int)} (hP : ShotsIn w A xs) (cap : Nat) :
    Calls Try.prog 29 #[.slice A xs.length cap, .func (.func 30) #[] #[]] w fun e w' => e = .returned (.bool (srt xs)) ∧ Below w.heap.size w w' := by
  have hlen := hP.len
  obtain ⟨n, hn⟩ : ∃ n, xs.length = n := ⟨_, rfl⟩
  have HN := Lib.hid hn
  have HP := Lib.hid hP
  rw [hn] at hlen ⊢
  clear hn hP
  go_enter Try.func29, Try.ntmps29
  go_wp2_with fail
  go_loopg [5] n (fun k c wr => c = .int .i64 ((k : Int) - 1) ∧ k ≤ n ∧ Hid (Below w.heap.size w wr) ∧ Hid (∀ i a b, k ≤ i + 1 → xs[i]? = some a → xs[i + 1]? = some b → a.1 ≤ b.1))
  case atStart => exact ⟨rfl, Nat.le_refl _, Lib.hid (Below.refl _ _), Lib.hid (fun i a b hi ha hb => by have := (List.getElem?_eq_some_iff.1 hb).1; have := HN.out; omega)⟩
  case round =>
    obtain ⟨rfl, hk, HB, HI⟩ := hrel
    have HD : Hid (gk ≤ 1 → srt xs = true) := Lib.hid (fun h => srt_iff.2 (fun i a b ha hb => HI.out i a b (by omega) ha hb))
    rcases gk with _ | _ | j
    · have HT := Lib.hid (HD.out (by omega))
      clear HD HI HP HN
      go_wp2_with fail
      go_ret
      exact ⟨ret_bool HT.out.symm, HB.out⟩
    · have HT := Lib.hid (HD.out (by omega))
      clear HD HI HP HN
      go_wp2_with fail
      go_ret
      exact ⟨ret_bool HT.out.symm, HB.out⟩
    · have e1 : ((j + 1 + 1 : Nat) : Int) - 1 = (j : Int) + 1 := by omega
      rw [e1]
      have hPw := HP.out.below HB.out
      obtain ⟨b, off, t1, n1, rfl, hx1, a0, a1, hbl⟩ := hPw.next (i := j + 1) (by have := HN.out; omega)
      obtain ⟨b', off', t0, n0, hbb, hx0, d0, d1, _⟩ := hPw.next (i := j) (by have := HN.out; omega)
      injection hbb with hbb
      injection hbb with hb1 hb2
      subst hb1 hb2
      have HC := Lib.hid (fun W => byTime_any t1 n1 t0 n0 W)
      have HF : Hid (cmpI t1 t0 < 0 → srt xs = false) := Lib.hid (fun h => srt_false hx0 hx1 (by unfold cmpI at h; dsimp only; split at h <;> first | omega | (split at h <;> omega)))
      have HG : Hid (¬ cmpI t1 t0 < 0 → ∀ i a b, j + 1 ≤ i + 1 → xs[i]? = some a → xs[i + 1]? = some b → a.1 ≤ b.1) := Lib.hid (fun h i a b hi ha hb => by
        rcases Nat.lt_or_ge i (j + 1) with c | c
        · obtain rfl : i = j := by omega
          rw [hx0] at ha
          rw [hx1] at hb
          injection ha with ha
          injection hb with hb
          subst ha hb
          unfold cmpI at h
          dsimp only
          split at h <;> first | omega | (split at h <;> omega)
        · exact HI.out i a b (by omega) ha hb)
      have HS : Hid (∀ W, Below wr.heap.size wr W → (fun W : World => (W.cell? ⟨b, off + (j + 1) * 2, none⟩ = some (.int .i64 t1) ∧ W.cell? ⟨b, off + (j + 1) * 2 + 1, none⟩ = some (.int .i64 n1)) ∧ (W.cell? ⟨b, off + j * 2, none⟩ = some (.int .i64 t0) ∧ W.cell? ⟨b, off + j * 2 + 1, none⟩ = some (.int .i64 n0))) W) := Lib.hid (fun W hW => ⟨⟨(hW.cell (p := ⟨b, _, none⟩) hbl).trans a0, (hW.cell (p := ⟨b, _, none⟩) hbl).trans a1⟩, ⟨(hW.cell (p := ⟨b, _, none⟩) hbl).trans d0, (hW.cell (p := ⟨b, _, none⟩) hbl).trans d1⟩⟩)
      have hk' := hk
      have HBW := Lib.hid (fun W (hW : Below wr.heap.size wr W) => HB.out.trans (hW.mono HB.out.size))
      clear HI HD HB hPw hx1 hx0 a0 a1 d0 d1 hbl e1
      generalize cmpI t1 t0 = C at *
      go_upto_region 4 with fail
      have i0 : (0 : Int) ≤ (j : Int) + 1 := by omega
      have i1 : (j : Int) + 1 < (n : Int) := by omega
      have i2 : ((j : Int) + 1).toNat = j + 1 := by omega
      have i3 : IntKind.i64.wrap ((j : Int) + 1 - 1) = (j : Int) := by rw [show (j : Int) + 1 - 1 = (j : Int) by omega]; exact wrap_i64 (by omega) (by omega)
      have i4 : (j : Int) < (n : Int) := by omega
      have i5 : IntKind.i64.wrap (j : Int) = (j : Int) := wrap_i64 (by omega) (by omega)
      refine wp_region_held_drew (S := (fun W : World => (W.cell? ⟨b, off + (j + 1) * 2, none⟩ = some (.int .i64 t1) ∧ W.cell? ⟨b, off + (j + 1) * 2 + 1, none⟩ = some (.int .i64 n1)) ∧ (W.cell? ⟨b, off + j * 2, none⟩ = some (.int .i64 t0) ∧ W.cell? ⟨b, off + j * 2 + 1, none⟩ = some (.int .i64 n0)))) (by kernel_rfl) (HS.out _ (Below.refl _ _).drew) (fun hHeld => ?_)
      obtain ⟨w0, hw0⟩ : ∃ W0, W0 = wr.drew := ⟨_, rfl⟩
      have HB0 : Hid (Below wr.heap.size wr w0) := Lib.hid (by rw [hw0]; exact (Below.refl _ _).drew)
      rw [← hw0] at hHeld ⊢
      clear hw0
      refine wpAnyH_take (i := 0) (v := ?_) (by simp only [List.getElem?_toArray, List.getElem?_cons_zero] <;> rfl) (by kernel_rfl) (by kernel_rfl) (by kernel_rfl) (by exact fun _ _ _ h => h) (Or.inl ⟨by rfl, ?_⟩) hHeld ?_
      rotate_left
      · intro w hSw; (try dsimp only at hSw); go_simp; (try with_reducible rfl)
      (try simp only [Act.put, List.setIfInBounds_toArray, List.set_cons_zero, List.set_cons_succ])
      refine wpAnyH_take (i := 1) (v := ?_) (by simp only [List.getElem?_toArray, List.getElem?_cons_succ, List.getElem?_cons_zero] <;> rfl) (by kernel_rfl) (by kernel_rfl) (by kernel_rfl) (by exact fun _ _ _ h => h) (Or.inl ⟨by rfl, ?_⟩) hHeld ?_
      rotate_left
      · intro w hSw; (try dsimp only at hSw); go_simp; (try with_reducible rfl)
      (try simp only [Act.put, List.setIfInBounds_toArray, List.set_cons_zero, List.set_cons_succ])
      refine wpAnyH_take (i := 2) (v := ?_) (by simp only [List.getElem?_toArray, List.getElem?_cons_succ, List.getElem?_cons_zero] <;> rfl) (by kernel_rfl) (by kernel_rfl) (by kernel_rfl) (by exact fun _ _ _ h => h) (Or.inl ⟨by rfl, ?_⟩) hHeld ?_
      rotate_left
      · intro w hSw; (try dsimp only at hSw); go_simp; (try with_reducible rfl)
      (try simp only [Act.put, List.setIfInBounds_toArray, List.set_cons_zero, List.set_cons_succ])
      refine wpAnyH_take (i := 3) (v := ?_) (by simp only [List.getElem?_toArray, List.getElem?_cons_succ, List.getElem?_cons_zero] <;> rfl) (by kernel_rfl) (by kernel_rfl) (by kernel_rfl) (by exact fun _ _ _ h => h) (Or.inl ⟨by rfl, ?_⟩) hHeld ?_
      rotate_left
      · intro w hSw; (try dsimp only at hSw); go_simp; (try with_reducible rfl)
      (try simp only [Act.put, List.setIfInBounds_toArray, List.set_cons_zero, List.set_cons_succ])
      refine wpAnyH_take (i := 4) (v := ?_) (by simp only [List.getElem?_toArray, List.getElem?_cons_succ, List.getElem?_cons_zero] <;> rfl) (by kernel_rfl) (by kernel_rfl) (by kernel_rfl) (by exact fun _ _ _ h => h) (Or.inl ⟨by rfl, ?_⟩) hHeld ?_
      rotate_left
      · intro w hSw; (try dsimp only at hSw); go_simp; (try with_reducible rfl)
      (try simp only [Act.put, List.setIfInBounds_toArray, List.set_cons_zero, List.set_cons_succ])
      refine wpAnyH_take (i := 5) (v := ?_) (by simp only [List.getElem?_toArray, List.getElem?_cons_succ, List.getElem?_cons_zero] <;> rfl) (by kernel_rfl) (by kernel_rfl) (by kernel_rfl) (by exact fun _ _ _ h => h) (Or.inl ⟨by rfl, ?_⟩) hHeld ?_
      rotate_left
      · intro w hSw; (try dsimp only at hSw); go_simp; (try with_reducible rfl)
      (try simp only [Act.put, List.setIfInBounds_toArray, List.set_cons_zero, List.set_cons_succ])
      refine wpAnyH_take (i := 6) (v := ?_) (by simp only [List.getElem?_toArray, List.getElem?_cons_succ, List.getElem?_cons_zero] <;> rfl) (by kernel_rfl) (by kernel_rfl) (by kernel_rfl) (by exact fun _ _ _ h => h) (Or.inl ⟨by rfl, ?_⟩) hHeld ?_
      rotate_left
      · intro w hSw; (try dsimp only at hSw); go_simp; (try with_reducible rfl)
      (try simp only [Act.put, List.setIfInBounds_toArray, List.set_cons_zero, List.set_cons_succ])
      refine wpAnyH_take (i := 7) (v := ?_) (by simp only [List.getElem?_toArray, List.getElem?_cons_succ, List.getElem?_cons_zero] <;> rfl) (by kernel_rfl) (by kernel_rfl) (by kernel_rfl) (by exact fun _ _ _ h => h) (Or.inl ⟨by rfl, ?_⟩) hHeld ?_
      rotate_left
      · intro w hSw; (try dsimp only at hSw); go_simp; (try with_reducible rfl)
      (try simp only [Act.put, List.setIfInBounds_toArray, List.set_cons_zero, List.set_cons_succ])
      refine wpAnyH_take (i := 8) (v := ?_) (by simp only [List.getElem?_toArray, List.getElem?_cons_succ, List.getElem?_cons_zero] <;> rfl) (by kernel_rfl) (by kernel_rfl) (by kernel_rfl) (by exact fun _ _ _ h => h) (Or.inl ⟨by rfl, ?_⟩) hHeld ?_
      rotate_left
      · intro w hSw; (try dsimp only at hSw); go_simp; (try with_reducible rfl)
      (try simp only [Act.put, List.setIfInBounds_toArray, List.set_cons_zero, List.set_cons_succ])
      refine wpAnyH_take (i := 9) (v := ?_) (by simp only [List.getElem?_toArray, List.getElem?_cons_succ, List.getElem?_cons_zero] <;> rfl) (by kernel_rfl) (by kernel_rfl) (by kernel_rfl) (by exact fun _ _ _ h => h) (Or.inl ⟨by rfl, ?_⟩) hHeld ?_
      rotate_left
      · intro w hSw; (try dsimp only at hSw); go_simp; (try with_reducible rfl)
      (try simp only [Act.put, List.setIfInBounds_toArray, List.set_cons_zero, List.set_cons_succ])
      refine wpAnyH_ready (rs := [10]) (by kernel_rfl) (by simp) ?_
      refine AllReadyH.cons (by simp only [List.getElem?_toArray, List.getElem?_cons_succ, List.getElem?_cons_zero] <;> rfl) (fun K hK => ?_) AllReadyH.nil
      go_simp
      go_at_call 30
      refine (HC.out _).mono ?_
      rintro e w1 ⟨rfl, hb1⟩
      have HB1 := Lib.hid (HB0.out.trans (hb1.mono HB0.out.size))
      clear hb1
      go_wp2_with fail
      refine hK.out _ _ ?_ (fun hHeld => ?_)
      · exact HS.out _ HB1.out
      clear hK K
      (try simp only [Act.put, List.setIfInBounds_toArray, List.set_cons_zero, List.set_cons_succ])
      refine wpAnyH_take (i := 11) (v := ?_) (by simp only [List.getElem?_toArray, List.getElem?_cons_succ, List.getElem?_cons_zero] <;> rfl) (by kernel_rfl) (by kernel_rfl) (by kernel_rfl) (by exact fun _ _ _ h => h) (Or.inl ⟨by rfl, ?_⟩) hHeld ?_
      rotate_left
      · intro w hSw; (try dsimp only at hSw); go_simp; (try with_reducible rfl)
      (try simp only [Act.put, List.setIfInBounds_toArray, List.set_cons_zero, List.set_cons_succ])
      refine wpAnyH_done (by kernel_rfl) ?_ _
      have HB9 := Lib.hid (HBW.out _ HB1.out)
      clear HB0 HB1 HS HBW HC i0 i1 i2 i3 i4 i5 hHeld
      by_cases c : C < 0
      · have HT := Lib.hid (HF.out c)
        clear HF HG HP HN
        go_wp2_with fail
        go_ret
        exact ⟨ret_bool HT.out.symm, HB9.out⟩
      · have HT := Lib.hid (HG.out (by omega))
        clear HF HG
        go_wp2_with fail
        go_roundg (j + 1)
        case measure => omega
        case rel => exact ⟨by go_num, by omega, HB9, HT⟩
end Go.Proofs.Ytkcfhjbppnchoaa
