/- bucket.Play. -/
import Derived.Test.YtkcfhjbppnchoaaBk7
namespace Go.Proofs.Ytkcfhjbppnchoaa
open Go.RowKit Go.Maps

theorem played_mk {w W : World} {r : List Bool × Bk × Int} {b : Bk} {c : Int} (h : r = ([], b, c)) (hb : Below w.heap.size w W) : Played w r (.returned (.tuple #[.slice none 0 0, .agg b.cells, .int .i64 c])) W := by
  rw [h]
  exact ⟨none, 0, rfl, Nat.le_refl _, WordsIn.nil _, hb⟩
theorem wp_store_bk {o : Oper} {a : Act} {w : World} {K : Act → World → Prop} {Q : Exit → Act → World → Prop} (x y : Operand) (ho : o.op = .store 23 x y)
    (g : Nat) (b b0 : Bk) (hx : a.eval x = .pointer (some ⟨g, 0, none⟩)) (hy : a.eval y = .agg b.cells) (hg : BkAt w g b0)
    (k : K (a.put o.dst undef) (w.setRow g b.cells)) : o.wp Try.prog a w K Q :=
  wp_store_row 23 x y ho g b.cells hx hy 23 b0.cells hg info_bucket rfl (one_bucket b) k
/-- The result's block, in a world that is otherwise as it was. -/
theorem res_new (w : World) : BkAt (w.alloc (.cells #[.int .i64 0, .int .i64 0, .int .i64 0, .int .i64 0, .int .i64 0] 23)) w.heap.size Bk.zero ∧ Below w.heap.size w (w.alloc (.cells #[.int .i64 0, .int .i64 0, .int .i64 0, .int .i64 0, .int .i64 0] 23)) :=
  ⟨heap_alloc_new w _, (Below.refl _ _).alloc (Nat.le_refl _) _⟩

set_option maxRecDepth 100000 in
set_option maxHeartbeats 8000000 in
theorem play_any {w : World} {A : Option Addr} {xs : List (Int × Int)} (hP : ShotsIn w A xs) (cap : Nat) (num den burst : Int) :
    Calls Try.prog 19 #[.int .i64 num, .int .i64 den, .int .i64 burst, .slice A xs.length cap] w (Played w (played num den burst xs)) := by
  have HM := Lib.hid (res_new w)
  have HF := Lib.hid (fun W => full_any num den burst W)
  have HPB := Lib.hid (fun W (hW : Below w.heap.size w W) => hP.below hW)
  have HLen := Lib.hid hP.len
  obtain ⟨n, hn⟩ : ∃ n, xs.length = n := ⟨_, rfl⟩
  have HN := Lib.hid hn
  have hlen := hP.len
  rw [hn] at hlen
  cases hr : rate num den burst with
  | false =>
    have HZ : Hid (∀ W, Below w.heap.size w W → Played w (played num den burst xs) (.returned (.tuple #[.slice none 0 0, .agg Bk.zero.cells, .int .i64 2])) W) := Lib.hid (fun W hW => played_mk (by unfold played; rw [hr]; rfl) hW)
    have HE : Hid (Bk.made num den burst = (Bk.zero, 2)) := Lib.hid (by unfold Bk.made; rw [hr]; rfl)
    rw [HE.out] at HF
    rw [hn]
    clear hP hr HPB hn hlen HE HLen
    generalize Played w (played num den burst xs) = D at *
    unfold Filled Bk.cells Bk.zero at HF
    go_enter Try.func19, Try.ntmps19
    go_upto_region 1 with fail
    generalize w.alloc (.cells #[.int .i64 0, .int .i64 0, .int .i64 0, .int .i64 0, .int .i64 0] 23) = m at *
    go_wp2_with fail
    refine (HF.out _).mono ?_
    rintro e w1 ⟨rfl, hb⟩
    have bo : Below w1.heap.size w1 (w1.alloc (.cells #[.int .i64 0, .int .i64 0, .int .i64 0, .int .i64 0, .int .i64 0] 23)) := (Below.refl _ _).alloc (Nat.le_refl _) _
    have HX := Lib.hid (And.intro ((HM.out.1.below hb).below bo) ((HM.out.2.trans (hb.mono HM.out.2.size)).trans (bo.mono (Nat.le_trans HM.out.2.size hb.size))))
    clear hb bo HM HF
    go_upto_region 2 with fail
    generalize w1.alloc (.cells #[.int .i64 0, .int .i64 0, .int .i64 0, .int .i64 0, .int .i64 0] 23) = w2 at *
    go_wp2_with (refine wpList_store_bk rfl (.tmp 9) (.tmp 25) rfl w.heap.size Bk.zero Bk.zero rfl rfl HX.out.1 ?_)
    exact bodyPost_ret (results_bk_mid 9 8 10 rfl _ _ rfl (HX.out.1.stored Bk.zero)) rfl (HZ.out _ (below_setRow HX.out.2 (Nat.le_refl _) _))
  | true =>
    have HE : Hid (Bk.made num den burst = (Bk.full num den burst, 0)) := Lib.hid (by unfold Bk.made; rw [hr]; rfl)
    rw [HE.out] at HF
    have hok : (Bk.full num den burst).Ok := Bk.right_iff.1 ((full_right num den burst).trans hr)
    have HPL : Hid (played num den burst xs = if srt xs = true then
      if fine (Bk.full num den burst) xs = true then ((run (Bk.full num den burst) xs).1, (run (Bk.full num den burst) xs).2, 0) else ([], Bk.zero, 2)
      else ([], Bk.zero, 1)) := Lib.hid (by unfold played; rw [hr]; rfl)
    have HSO := Lib.hid (fun W (hW : Below w.heap.size w W) => sorted_any (hP.below hW) cap)
    generalize played num den burst xs = PL at *
    generalize Bk.full num den burst = B0 at *
    unfold Filled at HF
    cases hs : srt xs with
    | false =>
      have HZ : Hid (∀ W, Below w.heap.size w W → Played w PL (.returned (.tuple #[.slice none 0 0, .agg Bk.zero.cells, .int .i64 1])) W) := Lib.hid (fun W hW => played_mk (by rw [HPL.out, hs]; rfl) hW)
      rw [hs, hn] at HSO
      rw [hn]
      clear hP hr HPB hn hlen HE HLen hs hok HPL
      generalize Played w PL = D at *
      unfold Bk.cells at HF
      go_enter Try.func19, Try.ntmps19
      go_upto_region 1 with fail
      generalize w.alloc (.cells #[.int .i64 0, .int .i64 0, .int .i64 0, .int .i64 0, .int .i64 0] 23) = m at *
      go_wp2_with fail
      refine (HF.out _).mono ?_
      rintro e w1 ⟨rfl, hb⟩
      have bo : Below w1.heap.size w1 (w1.alloc (.cells B0.cells 23)) := (Below.refl _ _).alloc (Nat.le_refl _) _
      have HX := Lib.hid (And.intro ((HM.out.1.below hb).below bo) ((HM.out.2.trans (hb.mono HM.out.2.size)).trans (bo.mono (Nat.le_trans HM.out.2.size hb.size))))
      clear hb bo HM HF
      go_upto_region 2 with fail
      unfold Bk.cells at HX
      generalize w1.alloc (.cells #[.int .i64 B0.num, .int .i64 B0.den, .int .i64 B0.burst, .int .i64 B0.lev, .int .i64 B0.tm] 23) = w2 at *
      go_wp2_with fail
      refine (HSO.out _ HX.out.2).mono ?_
      rintro e w3 ⟨rfl, hb⟩
      have HY := Lib.hid (And.intro (HX.out.1.below hb) (HX.out.2.trans (hb.mono HX.out.2.size)))
      clear hb HX HSO
      go_wp2_with (refine wpList_store_bk rfl (.tmp 9) (.tmp 30) rfl w.heap.size Bk.zero Bk.zero rfl rfl HY.out.1 ?_)
      exact bodyPost_ret (results_bk_mid 9 8 10 rfl _ _ rfl (HY.out.1.stored Bk.zero)) rfl (HZ.out _ (below_setRow HY.out.2 (Nat.le_refl _) _))
    | true =>
      have HT : Hid (∀ W s, s.length = n → s = (run B0 xs).1 → fine B0 xs = true → ∀ q, WordsIn W (some ⟨q, 0, none⟩) s → Below w.heap.size w W → Played w PL (.returned (.tuple #[.slice (some ⟨q, 0, none⟩) n n, .agg (run B0 xs).2.cells, .int .i64 0])) W) := Lib.hid (fun W s hl he hf q hw hb => by
        have e : PL = ((run B0 xs).1, (run B0 xs).2, 0) := by rw [HPL.out, hs, hf]; rfl
        subst he
        rw [e]
        exact ⟨some ⟨q, 0, none⟩, n, by rw [← hl], Nat.le_of_eq hl, hw, hb⟩)
      have HZ : Hid (∀ W, Below w.heap.size w W → fine B0 xs = false → Played w PL (.returned (.tuple #[.slice none 0 0, .agg Bk.zero.cells, .int .i64 2])) W) := Lib.hid (fun W hW hf => played_mk (by rw [HPL.out, hs, hf]; rfl) hW)
      rw [hs, hn] at HSO
      rw [hn]
      have hmk := run_make_row' (P := Try.prog) 41 4 (.bool false) 1 Try.underlying41 (by kernel_rfl) rfl .i64 .i64 n (by omega) (by omega)
      have HOK := Lib.hid hok
      have HRL := Lib.hid (fun i => run_length B0 (xs.take i))
      have HFN := Lib.hid (fun i x (h : xs[i]? = some x) hf => fine_next (b := B0) h hf)
      have HST := Lib.hid (fun i (h : fine B0 (xs.take i) = false) => fine_stop h)
      clear hP hr hn HE HLen hs hok HPL
      generalize Played w PL = D at *
      unfold Bk.cells at HF
      go_enter Try.func19, Try.ntmps19
      go_upto_region 1 with fail
      generalize w.alloc (.cells #[.int .i64 0, .int .i64 0, .int .i64 0, .int .i64 0, .int .i64 0] 23) = m at *
      go_wp2_with fail
      refine (HF.out _).mono ?_
      rintro e w1 ⟨rfl, hb⟩
      have bo : Below w1.heap.size w1 (w1.alloc (.cells B0.cells 23)) := (Below.refl _ _).alloc (Nat.le_refl _) _
      have hw1 : w.heap.size < w1.heap.size := Nat.lt_of_lt_of_le HM.out.1.lt hb.size
      have HX := Lib.hid (And.intro ((HM.out.1.below hb).below bo) (And.intro ((HM.out.2.trans (hb.mono HM.out.2.size)).trans (bo.mono (Nat.le_trans HM.out.2.size hb.size))) (And.intro (BkAt.new w1 B0) hw1)))
      clear hb bo HM HF hw1
      obtain ⟨g, hg⟩ : ∃ g, w1.heap.size = g := ⟨_, rfl⟩
      go_upto_region 2 with fail
      rw [hg] at HX
      (try rw [hg])
      clear hg
      unfold Bk.cells at HX
      generalize w1.alloc (.cells #[.int .i64 B0.num, .int .i64 B0.den, .int .i64 B0.burst, .int .i64 B0.lev, .int .i64 B0.tm] 23) = w2 at *
      go_wp2_with fail
      refine (HSO.out _ HX.out.2.1).mono ?_
      rintro e w3 ⟨rfl, hb⟩
      have HY := Lib.hid (And.intro (HX.out.1.below hb) (And.intro (HX.out.2.1.trans (hb.mono HX.out.2.1.size)) (And.intro (HX.out.2.2.1.below hb) HX.out.2.2.2)))
      clear hb HX HSO
      go_upto_region 7 with fail
      have HI : Hid (PlayInv w (w3.alloc (.cells (madeCells #[.bool false] n) 4)) g w3.heap.size n (run B0 (xs.take 0))) := Lib.hid (by
        have bo : Below w3.heap.size w3 (w3.alloc (.cells (madeCells #[.bool false] n) 4)) := (Below.refl _ _).alloc (Nat.le_refl _) _
        exact ⟨HY.out.2.1.trans (bo.mono HY.out.2.1.size), HY.out.1.below bo, HY.out.2.2.1.below bo, ⟨_, World.rowIs_made w3 _ _ _, fun j x hx => by simp [run] at hx, fun j hj => ⟨false, rfl⟩⟩, HY.out.2.2.2, HY.out.2.2.1.lt⟩)
      obtain ⟨q, hq⟩ : ∃ q, w3.heap.size = q := ⟨_, rfl⟩
      rw [hq] at HI
      rw [hq]
      clear hq HY
      generalize w3.alloc (.cells (madeCells #[.bool false] n) 4) = w4 at *
      go_wp2_with fail
      go_loopg [36] n (fun k c wr => ∃ i : Nat, c = .int .i64 (i : Int) ∧ i + k = n ∧ Hid (PlayInv w wr g q n (run B0 (xs.take i)) ∧ fine B0 (xs.take i) = true))
      case atStart => exact ⟨0, rfl, by omega, Lib.hid ⟨HI.out, rfl⟩⟩
      case round =>
        clear HI
        obtain ⟨i, rfl, hik, HI⟩ := hrel
        cases gk with
        | zero =>
          obtain rfl : i = n := by omega
          have he : xs.take i = xs := List.take_of_length_le (by have := HN.out; omega)
          have hl := HRL.out i
          rw [he] at HI hl
          have HL := Lib.hid (hl.trans HN.out)
          obtain ⟨c0, c1, c2, c3, c4⟩ := HI.out.1.bk.cells
          clear he hl HZ HOK HRL HFN HST HPB
          have HFI := Lib.hid HI.out.2
          have HI1 := Lib.hid HI.out.1
          clear HI
          have HT2 := Lib.hid (fun W hl => HT.out W _ hl rfl HFI.out q)
          clear HT HFI
          generalize run B0 xs = s at *
          have HS : Hid (∀ W : World, W.heap[g]? = wr.heap[g]? → (fun W : World => W.cell? ⟨g, 0, none⟩ = some (.int .i64 s.2.num) ∧ W.cell? ⟨g, 1, none⟩ = some (.int .i64 s.2.den) ∧ W.cell? ⟨g, 2, none⟩ = some (.int .i64 s.2.burst) ∧ W.cell? ⟨g, 3, none⟩ = some (.int .i64 s.2.lev) ∧ W.cell? ⟨g, 4, none⟩ = some (.int .i64 s.2.tm)) W) := Lib.hid (fun W hW => BkAt.cells (b := s.2) (hW.trans HI1.out.bk))
          go_upto_region 14 with fail
          refine wp_region_held_drew (S := (fun W : World => W.cell? ⟨g, 0, none⟩ = some (.int .i64 s.2.num) ∧ W.cell? ⟨g, 1, none⟩ = some (.int .i64 s.2.den) ∧ W.cell? ⟨g, 2, none⟩ = some (.int .i64 s.2.burst) ∧ W.cell? ⟨g, 3, none⟩ = some (.int .i64 s.2.lev) ∧ W.cell? ⟨g, 4, none⟩ = some (.int .i64 s.2.tm))) (by kernel_rfl) (HS.out _ rfl) (fun hHeld => ?_)
          have HD : Hid (PlayInv w wr.drew g q i s) := Lib.hid (HI1.out.later (below_drewN (Below.refl _ _) 1))
          generalize wr.drew = wd at *
          have HS2 : Hid (∀ W : World, W.heap[g]? = wd.heap[g]? → (fun W : World => W.cell? ⟨g, 0, none⟩ = some (.int .i64 s.2.num) ∧ W.cell? ⟨g, 1, none⟩ = some (.int .i64 s.2.den) ∧ W.cell? ⟨g, 2, none⟩ = some (.int .i64 s.2.burst) ∧ W.cell? ⟨g, 3, none⟩ = some (.int .i64 s.2.lev) ∧ W.cell? ⟨g, 4, none⟩ = some (.int .i64 s.2.tm)) W) := Lib.hid (fun W hW => BkAt.cells (b := s.2) (hW.trans HD.out.bk))
          refine wpAnyH_take (i := 0) (v := ?_) (by simp only [List.getElem?_toArray, List.getElem?_cons_zero] <;> rfl) (by kernel_rfl) (by kernel_rfl) (by kernel_rfl) (by exact fun _ _ _ h => h) (Or.inl ⟨by rfl, ?_⟩) hHeld ?_
          rotate_left
          · intro w hSw; (try dsimp only at hSw); go_simp; (try with_reducible rfl)
          (try simp only [Act.put, List.setIfInBounds_toArray, List.set_cons_zero, List.set_cons_succ])
          refine wpAnyH_take (i := 1) (v := ?_) (by simp only [List.getElem?_toArray, List.getElem?_cons_succ, List.getElem?_cons_zero] <;> rfl) (by kernel_rfl) (by kernel_rfl) (by kernel_rfl) (by exact fun _ _ _ h => h) (Or.inl ⟨by rfl, ?_⟩) hHeld ?_
          rotate_left
          · intro w hSw; (try dsimp only at hSw); go_simp; (try with_reducible rfl)
          (try simp only [Act.put, List.setIfInBounds_toArray, List.set_cons_zero, List.set_cons_succ])
          refine wpAnyH_take (i := 2) (v := ?_) (by simp only [List.getElem?_toArray, List.getElem?_cons_succ, List.getElem?_cons_zero] <;> rfl) (by kernel_rfl) (by kernel_rfl) (by kernel_rfl) (by exact fun _ _ _ h => h) (Or.inl ⟨by rfl, ?_⟩) hHeld ?_
          rotate_left
          · intro w hSw; (try dsimp only at hSw); go_simp; (try with_reducible rfl)
          (try simp only [Act.put, List.setIfInBounds_toArray, List.set_cons_zero, List.set_cons_succ])
          refine wpAnyH_ready (rs := [3]) (by kernel_rfl) (by simp) ?_
          refine AllReadyH.cons (by simp only [List.getElem?_toArray, List.getElem?_cons_succ, List.getElem?_cons_zero] <;> rfl) (fun K hK => ?_) AllReadyH.nil
          rw [if_pos (by rfl)]
          refine wp_store_bk (.tmp 9) (.tmp 57) rfl w.heap.size s.2 Bk.zero rfl rfl HD.out.res ?_
          refine hK.out _ _ ?_ (fun hHeld => ?_)
          · exact HS2.out _ (setRow_other wd _ _ _ (by have := HD.out.far; omega))
          clear hK K
          (try simp only [Act.put])
          refine wpAnyH_take (i := 4) (v := ?_) (by simp only [List.getElem?_toArray, List.getElem?_cons_succ, List.getElem?_cons_zero] <;> rfl) (by kernel_rfl) (by kernel_rfl) (by kernel_rfl) (by exact fun _ _ _ h => h) (Or.inl ⟨by rfl, ?_⟩) hHeld ?_
          rotate_left
          · intro w hSw; (try dsimp only at hSw); go_simp; (try with_reducible rfl)
          (try simp only [Act.put, List.setIfInBounds_toArray, List.set_cons_zero, List.set_cons_succ])
          refine wpAnyH_done (by kernel_rfl) ?_ _
          clear hHeld
          go_wp2_with fail
          exact bodyPost_ret (results_bk_mid 9 8 10 rfl _ _ rfl (HD.out.ended s.2).1) rfl (HT2.out _ HL.out (HD.out.last HL.out hlen s.2) (HD.out.ended s.2).2)
        | succ k =>
          have hi : i < n := by omega
          have i1 : (i : Int) < (n : Int) := by omega
          obtain ⟨b, off, ti, ni, rfl, hx, a0, a1, hbl⟩ := (HPB.out _ HI.out.1.below).next (i := i) (by have := HN.out; omega)
          have HX := Lib.hid (run_next (b := B0) hx)
          have hok' := fine_ok HOK.out HI.out.2
          have HTK := Lib.hid (take_ok hok' ti ni)
          have HNX := Lib.hid (HFN.out i _ hx HI.out.2)
          have HT1 := Lib.hid (fun W => take_any (run B0 (xs.take i)).2 ti ni W)
          have hlen' := HRL.out i
          have HLI : Hid ((run B0 (xs.take i)).1.length = i) := Lib.hid (by rw [hlen', List.length_take]; have := HN.out; omega)
          have bo : Below wr.heap.size wr (wr.alloc (.cells #[.int .i64 ti, .int .i64 ni] 36)) := (Below.refl _ _).alloc (Nat.le_refl _) _
          have hsh : ShotAt (wr.alloc (.cells #[.int .i64 ti, .int .i64 ni] 36)) wr.heap.size ti ni := heap_alloc_new wr _
          have HI2 := Lib.hid (And.intro (HI.out.1.later bo) hsh)
          clear hx hok' hlen' bo hsh HFN HT
          generalize run B0 (xs.take i) = s at *
          go_upto_region 10 with fail
          generalize wr.alloc (.cells #[.int .i64 ti, .int .i64 ni] 36) = wa at *
          obtain ⟨c0, c1, c2, c3, c4⟩ := HI2.out.1.bk.cells
          obtain ⟨s0, s1⟩ := HI2.out.2.cells
          clear a0 a1 HI hbl
          unfold Bk.cells at HT1
          rcases HTK.out with ⟨k1, k2, k3, k4, k5, k6, k7⟩ | ⟨k1, _⟩
          · have HNX2 : Hid (fine B0 (xs.take (i + 1)) = true) := Lib.hid (by rw [HNX.out]; exact decide_eq_true k1)
            have HX2 : Hid (run B0 (xs.take (i + 1)) = (s.1 ++ [(s.2.shoot ti ni).2], (s.2.shoot ti ni).1)) := Lib.hid (by rw [HX.out]; unfold shotAct; dsimp only; rw [k7])
            have HT2 : Hid (∀ W, Calls Try.prog 17 #[.agg #[.int .i64 s.2.num, .int .i64 s.2.den, .int .i64 s.2.burst, .int .i64 s.2.lev, .int .i64 s.2.tm], .agg #[.int .i64 ti, .int .i64 ni]] W (Taken W ((s.2.shoot ti ni).1, (s.2.shoot ti ni).2, 0))) := Lib.hid (fun W => by rw [← k7]; exact HT1.out W)
            clear k1 k2 k3 k4 k5 k6 k7 HT1 HTK HNX HX
            generalize s.2.shoot ti ni = X at *
            obtain ⟨bt, ut⟩ := X
            dsimp only at *
            go_wp2_with fail
            refine (HT2.out _).mono ?_
            rintro e w2 ⟨rfl, hb⟩
            have HI3 := Lib.hid (HI2.out.1.later hb)
            obtain ⟨⟨u0, hu0⟩, hfz⟩ := HI3.out.seat bt hi
            have HI4 := Lib.hid (HI3.out.put bt ut)
            rw [HLI.out] at HI4
            have hgq := HI3.out.far
            clear hb HI2
            go_upto_region 11 with (refine wpList_store_bk rfl (.tmp 11) (.tmp 47) rfl g bt s.2 rfl rfl HI3.out.bk ?_)
            generalize (w2.setRow g (Bk.cells bt)).setCell ⟨q, i, none⟩ (.bool ut) = w5 at *
            clear HI3 hu0 hfz
            go_wp2_with fail
            go_roundg k
            case measure => omega
            case rel => exact ⟨i + 1, by go_num, by omega, Lib.hid ⟨by rw [HX2.out]; exact HI4.out, HNX2.out⟩⟩
          · have HNX2 : Hid (fine B0 (xs.take (i + 1)) = false) := Lib.hid (by rw [HNX.out]; exact decide_eq_false (by rw [k1]; decide))
            have HT2 : Hid (∀ W, Calls Try.prog 17 #[.agg #[.int .i64 s.2.num, .int .i64 s.2.den, .int .i64 s.2.burst, .int .i64 s.2.lev, .int .i64 s.2.tm], .agg #[.int .i64 ti, .int .i64 ni]] W (Taken W (Bk.zero, false, 2))) := Lib.hid (fun W => by rw [← k1]; exact HT1.out W)
            have HZ2 := Lib.hid (fun W hW => HZ.out W hW (HST.out _ HNX2.out))
            clear k1 HT1 HTK HNX HX HZ HST HNX2
            go_wp2_with fail
            refine (HT2.out _).mono ?_
            rintro e w2 ⟨rfl, hb⟩
            have HI3 := Lib.hid (HI2.out.1.later hb)
            obtain ⟨⟨u0, hu0⟩, hfz⟩ := HI3.out.seat Bk.zero hi
            have HI4 := Lib.hid (HI3.out.put Bk.zero false)
            rw [HLI.out] at HI4
            have hgq := HI3.out.far
            clear hb HI2
            go_upto_region 11 with (refine wpList_store_bk rfl (.tmp 11) (.tmp 47) rfl g Bk.zero s.2 rfl rfl HI3.out.bk ?_)
            generalize (w2.setRow g (Bk.cells Bk.zero)).setCell ⟨q, i, none⟩ (.bool false) = w5 at *
            clear HI3 hu0 hfz
            go_wp2_with (refine wpList_store_bk rfl (.tmp 9) (.tmp 53) rfl w.heap.size Bk.zero Bk.zero rfl rfl HI4.out.res ?_)
            exact bodyPost_ret (results_bk_mid 9 8 10 rfl _ _ rfl (HI4.out.ended Bk.zero).1) rfl (HZ2.out _ (HI4.out.ended Bk.zero).2)
end Go.Proofs.Ytkcfhjbppnchoaa
