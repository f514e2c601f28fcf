/- meter.Play. -/
import Derived.Test.YtnbjcahhmibmdaaMt5
namespace Go.Proofs.Ytnbjcahhmibmdaa
open Go.RowKit Go.Maps

/-- The result's block, and a meter's behind it. -/
def resM (w : World) (b : Mt) : World := (w.alloc (.cells #[.int .i64 0, .int .i64 0, .int .i64 0, .int .i64 0, .int .i64 0, .int .i64 0] 23)).alloc (.cells #[.int .i64 b.rate, .int .i64 b.burst, .int .i64 b.exc, .int .i64 b.fst, .int .i64 b.snd, .int .i64 b.tm] 23)
theorem resM_at (w : World) (b : Mt) : MtAt (resM w b) w.heap.size Mt.zero ∧ MtAt (resM w b) (w.heap.size + 1) b ∧ Below w.heap.size w (resM w b) := by
  have b1 : Below w.heap.size w (w.alloc (.cells Mt.zero.cells 23)) := (Below.refl _ _).alloc (Nat.le_refl _) _
  refine ⟨?_, ?_, b1.alloc b1.size _⟩
  · unfold MtAt resM
    rw [Below.heap_alloc _ _ _ (by simp)]
    exact heap_alloc_new w _
  · have : w.heap.size + 1 = (w.alloc (.cells #[.int .i64 0, .int .i64 0, .int .i64 0, .int .i64 0, .int .i64 0, .int .i64 0] 23)).heap.size := by simp
    unfold MtAt resM
    rw [this]
    exact heap_alloc_new _ _

set_option maxRecDepth 100000 in
set_option maxHeartbeats 8000000 in
theorem play_any {w : World} {A : Option Addr} {xs : List (Int × Int)} (hP : ShotsIn w A xs) (cap : Nat) (r b e : Int) :
    Calls Try.prog 13 #[.int .i64 r, .int .i64 b, .int .i64 e, .slice A xs.length cap] w (Played w (played r b e xs)) := by
  have HM := Lib.hid (resM_at w (Mt.full r b e))
  have HR := Lib.hid (fun W => right_any (Mt.full r b e) W)
  have HPB := Lib.hid (fun W (hW : Below w.heap.size w W) => hP.below hW)
  obtain ⟨n, hn⟩ : ∃ n, xs.length = n := ⟨_, rfl⟩
  have HN := Lib.hid hn
  have hlen := hP.len
  rw [hn] at hlen
  cases hr : (Mt.full r b e).right with
  | false =>
    have HZ : Hid (∀ W, Below w.heap.size w W → Played w (played r b e xs) (.returned (.tuple #[.slice none 0 0, .agg Mt.zero.cells, .int .i64 2])) W) := Lib.hid (fun W hW => played_mk (by unfold played; rw [hr]; rfl) hW)
    rw [hr] at HR
    rw [hn]
    clear hP hr HPB hn hlen
    generalize Played w (played r b e xs) = D at *
    unfold Mt.cells Mt.full at HR
    dsimp only at HR
    go_enter Try.func13, Try.ntmps13
    go_upto_region 2 with fail
    change Code.wp _ _ _ _ (resM w (Mt.full r b e))
    generalize resM w (Mt.full r b e) = m at *
    have hc := HM.out.2.1.cells
    unfold Mt.full at hc
    dsimp only at hc
    obtain ⟨c0, c1, c2, c3, c4, c5⟩ := hc
    go_wp2_with fail
    refine (HR.out _).mono ?_
    rintro e1 w1 ⟨rfl, hb⟩
    have HX := Lib.hid (And.intro (HM.out.1.below hb) (HM.out.2.2.trans (hb.mono HM.out.2.2.size)))
    clear hb HM HR c0 c1 c2 c3 c4 c5
    go_wp2_with (refine wpList_store_mt rfl (.tmp 9) (.tmp 25) rfl w.heap.size Mt.zero Mt.zero rfl rfl HX.out.1 ?_)
    exact bodyPost_ret (results_mt_mid 9 8 10 rfl _ _ rfl (HX.out.1.stored Mt.zero)) rfl (HZ.out _ (below_setRow HX.out.2 (Nat.le_refl _) _))
  | true =>
    have hok : (Mt.full r b e).Ok := Mt.right_iff.1 hr
    have HPL : Hid (played r b e xs = if fine (Mt.full r b e) xs = true then ((run (Mt.full r b e) xs).1, (run (Mt.full r b e) xs).2, 0) else ([], Mt.zero, 2)) := Lib.hid (by unfold played; rw [hr]; rfl)
    rw [hr] at HR
    unfold Mt.cells Mt.full at HR
    dsimp only at HR
    generalize played r b e xs = PL at *
    have HT : Hid (∀ W s, s.length = n → s = (run (Mt.full r b e) xs).1 → fine (Mt.full r b e) xs = true → ∀ q, IntsIn W (some ⟨q, 0, none⟩) s → Below w.heap.size w W → Played w PL (.returned (.tuple #[.slice (some ⟨q, 0, none⟩) n n, .agg (run (Mt.full r b e) xs).2.cells, .int .i64 0])) W) := Lib.hid (fun W s hl he hf q hw hb => by
      have e : PL = ((run (Mt.full r b e) xs).1, (run (Mt.full r b e) xs).2, 0) := by rw [HPL.out, hf]; rfl
      subst he
      rw [e]
      exact ⟨some ⟨q, 0, none⟩, n, by rw [← hl], Nat.le_of_eq hl, hw, hb⟩)
    have HZ : Hid (∀ W, Below w.heap.size w W → fine (Mt.full r b e) xs = false → Played w PL (.returned (.tuple #[.slice none 0 0, .agg Mt.zero.cells, .int .i64 2])) W) := Lib.hid (fun W hW hf => played_mk (by rw [HPL.out, hf]; rfl) hW)
    rw [hn]
    have hmk := run_make_row' (P := Try.prog) 32 3 (.int .i64 0) 8 Try.underlying32 (by kernel_rfl) rfl .i64 .i64 n (by omega) (by omega)
    have HOK := Lib.hid hok
    have HRL := Lib.hid (fun i => run_length (Mt.full r b e) (xs.take i))
    have HFN := Lib.hid (fun i x (h : xs[i]? = some x) hf => fine_next (b := Mt.full r b e) h hf)
    have HST := Lib.hid (fun i (h : fine (Mt.full r b e) (xs.take i) = false) => fine_stop h)
    clear hP hr hn hok HPL
    generalize Played w PL = D at *
    go_enter Try.func13, Try.ntmps13
    go_upto_region 2 with fail
    change Code.wp _ _ _ _ (resM w (Mt.full r b e))
    generalize resM w (Mt.full r b e) = m at *
    have hc := HM.out.2.1.cells
    unfold Mt.full at hc
    dsimp only at hc
    obtain ⟨c0, c1, c2, c3, c4, c5⟩ := hc
    go_wp2_with fail
    refine (HR.out _).mono ?_
    rintro e1 w1 ⟨rfl, hb⟩
    have HX := Lib.hid (And.intro (HM.out.1.below hb) (And.intro (HM.out.2.2.trans (hb.mono HM.out.2.2.size)) (And.intro (HM.out.2.1.below hb) (Nat.lt_succ_self w.heap.size))))
    clear hb HM HR c0 c1 c2 c3 c4 c5
    generalize Mt.full r b e = B0 at *
    go_upto_region 5 with fail
    obtain ⟨g, hg⟩ : ∃ g, w.heap.size + 1 = g := ⟨_, rfl⟩
    have HX' : Hid (MtAt w1 w.heap.size Mt.zero ∧ Below w.heap.size w w1 ∧ MtAt w1 g B0 ∧ w.heap.size < g) := Lib.hid (by rw [← hg]; exact HX.out)
    (try rw [hg])
    clear HX hg
    have HI : Hid (PlayInv w (w1.alloc (.cells (madeCells #[.int .i64 0] n) 3)) g w1.heap.size n (run B0 (xs.take 0))) := Lib.hid (by
      have bo : Below w1.heap.size w1 (w1.alloc (.cells (madeCells #[.int .i64 0] n) 3)) := (Below.refl _ _).alloc (Nat.le_refl _) _
      exact ⟨HX'.out.2.1.trans (bo.mono HX'.out.2.1.size), HX'.out.1.below bo, HX'.out.2.2.1.below bo, ⟨_, World.rowIs_made w1 _ _ _, fun j x hx => by simp [run] at hx, fun j hj => ⟨0, rfl⟩⟩, HX'.out.2.2.2, HX'.out.2.2.1.lt⟩)
    obtain ⟨q, hq⟩ : ∃ q, w1.heap.size = q := ⟨_, rfl⟩
    rw [hq] at HI
    rw [hq]
    clear hq HX'
    generalize w1.alloc (.cells (madeCells #[.int .i64 0] n) 3) = w4 at *
    go_wp2_with fail
    go_loopg [31] n (fun k c wr => ∃ i : Nat, c = .int .i64 (i : Int) ∧ i + k = n ∧ Hid (PlayInv w wr g q n (run B0 (xs.take i)) ∧ fine B0 (xs.take i) = true))
    case atStart => exact ⟨0, rfl, by omega, Lib.hid ⟨HI.out, rfl⟩⟩
    case round =>
      clear HI
      obtain ⟨i, rfl, hik, HI⟩ := hrel
      cases gk with
      | zero =>
        obtain rfl : i = n := by omega
        have he : xs.take i = xs := List.take_of_length_le (by have := HN.out; omega)
        have hl := HRL.out i
        rw [he] at HI hl
        have HL := Lib.hid (hl.trans HN.out)
        clear he hl HZ HOK HRL HFN HST HPB
        have HFI := Lib.hid HI.out.2
        have HI1 := Lib.hid HI.out.1
        clear HI
        have HT2 := Lib.hid (fun W hl => HT.out W _ hl rfl HFI.out q)
        clear HT HFI
        generalize run B0 xs = s at *
        have HS : Hid (∀ W : World, W.heap[g]? = wr.heap[g]? → (fun W : World => W.cell? ⟨g, 0, none⟩ = some (.int .i64 s.2.rate) ∧ W.cell? ⟨g, 1, none⟩ = some (.int .i64 s.2.burst) ∧ W.cell? ⟨g, 2, none⟩ = some (.int .i64 s.2.exc) ∧ W.cell? ⟨g, 3, none⟩ = some (.int .i64 s.2.fst) ∧ W.cell? ⟨g, 4, none⟩ = some (.int .i64 s.2.snd) ∧ W.cell? ⟨g, 5, none⟩ = some (.int .i64 s.2.tm)) W) := Lib.hid (fun W hW => MtAt.cells (b := s.2) (hW.trans HI1.out.mt))
        go_upto_region 13 with fail
        refine wp_region_held_drew (S := (fun W : World => W.cell? ⟨g, 0, none⟩ = some (.int .i64 s.2.rate) ∧ W.cell? ⟨g, 1, none⟩ = some (.int .i64 s.2.burst) ∧ W.cell? ⟨g, 2, none⟩ = some (.int .i64 s.2.exc) ∧ W.cell? ⟨g, 3, none⟩ = some (.int .i64 s.2.fst) ∧ W.cell? ⟨g, 4, none⟩ = some (.int .i64 s.2.snd) ∧ W.cell? ⟨g, 5, none⟩ = some (.int .i64 s.2.tm))) (by kernel_rfl) (HS.out _ rfl) (fun hHeld => ?_)
        have HD : Hid (PlayInv w wr.drew g q i s) := Lib.hid (HI1.out.later (below_drewN (Below.refl _ _) 1))
        generalize wr.drew = wd at *
        have HS2 : Hid (∀ W : World, W.heap[g]? = wd.heap[g]? → (fun W : World => W.cell? ⟨g, 0, none⟩ = some (.int .i64 s.2.rate) ∧ W.cell? ⟨g, 1, none⟩ = some (.int .i64 s.2.burst) ∧ W.cell? ⟨g, 2, none⟩ = some (.int .i64 s.2.exc) ∧ W.cell? ⟨g, 3, none⟩ = some (.int .i64 s.2.fst) ∧ W.cell? ⟨g, 4, none⟩ = some (.int .i64 s.2.snd) ∧ W.cell? ⟨g, 5, none⟩ = some (.int .i64 s.2.tm)) W) := Lib.hid (fun W hW => MtAt.cells (b := s.2) (hW.trans HD.out.mt))
        refine wpAnyH_take (i := 0) (v := ?_) (by simp only [List.getElem?_toArray, List.getElem?_cons_zero] <;> rfl) (by kernel_rfl) (by kernel_rfl) (by kernel_rfl) (by exact fun _ _ _ h => h) (Or.inl ⟨by rfl, ?_⟩) hHeld ?_
        rotate_left
        · intro w hSw; (try dsimp only at hSw); go_simp; (try with_reducible rfl)
        (try simp only [Act.put, List.setIfInBounds_toArray, List.set_cons_zero, List.set_cons_succ])
        refine wpAnyH_take (i := 1) (v := ?_) (by simp only [List.getElem?_toArray, List.getElem?_cons_succ, List.getElem?_cons_zero] <;> rfl) (by kernel_rfl) (by kernel_rfl) (by kernel_rfl) (by exact fun _ _ _ h => h) (Or.inl ⟨by rfl, ?_⟩) hHeld ?_
        rotate_left
        · intro w hSw; (try dsimp only at hSw); go_simp; (try with_reducible rfl)
        (try simp only [Act.put, List.setIfInBounds_toArray, List.set_cons_zero, List.set_cons_succ])
        refine wpAnyH_take (i := 2) (v := ?_) (by simp only [List.getElem?_toArray, List.getElem?_cons_succ, List.getElem?_cons_zero] <;> rfl) (by kernel_rfl) (by kernel_rfl) (by kernel_rfl) (by exact fun _ _ _ h => h) (Or.inl ⟨by rfl, ?_⟩) hHeld ?_
        rotate_left
        · intro w hSw; (try dsimp only at hSw); go_simp; (try with_reducible rfl)
        (try simp only [Act.put, List.setIfInBounds_toArray, List.set_cons_zero, List.set_cons_succ])
        refine wpAnyH_ready (rs := [3]) (by kernel_rfl) (by simp) ?_
        refine AllReadyH.cons (by simp only [List.getElem?_toArray, List.getElem?_cons_succ, List.getElem?_cons_zero] <;> rfl) (fun K hK => ?_) AllReadyH.nil
        rw [if_pos (by rfl)]
        refine wp_store_mt (.tmp 9) (.tmp 52) rfl w.heap.size s.2 Mt.zero rfl rfl HD.out.res ?_
        refine hK.out _ _ ?_ (fun hHeld => ?_)
        · exact HS2.out _ (setRow_other wd _ _ _ (by have := HD.out.far; omega))
        clear hK K
        (try simp only [Act.put])
        refine wpAnyH_take (i := 4) (v := ?_) (by simp only [List.getElem?_toArray, List.getElem?_cons_succ, List.getElem?_cons_zero] <;> rfl) (by kernel_rfl) (by kernel_rfl) (by kernel_rfl) (by exact fun _ _ _ h => h) (Or.inl ⟨by rfl, ?_⟩) hHeld ?_
        rotate_left
        · intro w hSw; (try dsimp only at hSw); go_simp; (try with_reducible rfl)
        (try simp only [Act.put, List.setIfInBounds_toArray, List.set_cons_zero, List.set_cons_succ])
        refine wpAnyH_done (by kernel_rfl) ?_ _
        clear hHeld
        go_wp2_with fail
        exact bodyPost_ret (results_mt_mid 9 8 10 rfl _ _ rfl (HD.out.ended s.2).1) rfl (HT2.out _ HL.out (HD.out.last HL.out hlen s.2) (HD.out.ended s.2).2)
      | succ k =>
        have hi : i < n := by omega
        have i1 : (i : Int) < (n : Int) := by omega
        obtain ⟨b0, off, ti, ni, rfl, hx, a0, a1, hbl⟩ := (HPB.out _ HI.out.1.below).next (i := i) (by have := HN.out; omega)
        have HX := Lib.hid (run_next (b := B0) hx)
        have hok' := fine_ok HOK.out HI.out.2
        have HTK := Lib.hid (colour_ok hok' ti ni)
        have HNX := Lib.hid (HFN.out i _ hx HI.out.2)
        have HT1 := Lib.hid (fun W => colour_any (run B0 (xs.take i)).2 ti ni 1 W)
        have hlen' := HRL.out i
        have HLI : Hid ((run B0 (xs.take i)).1.length = i) := Lib.hid (by rw [hlen', List.length_take]; have := HN.out; omega)
        have bo : Below wr.heap.size wr (wr.alloc (.cells #[.int .i64 ti, .int .i64 ni] 25)) := (Below.refl _ _).alloc (Nat.le_refl _) _
        have hsh : ShotAt (wr.alloc (.cells #[.int .i64 ti, .int .i64 ni] 25)) wr.heap.size ti ni := heap_alloc_new wr _
        have HI2 := Lib.hid (And.intro (HI.out.1.later bo) hsh)
        clear hx hok' hlen' bo hsh HFN HT
        generalize run B0 (xs.take i) = s at *
        go_upto_region 9 with fail
        generalize wr.alloc (.cells #[.int .i64 ti, .int .i64 ni] 25) = wa at *
        obtain ⟨c0, c1, c2, c3, c4, c5⟩ := HI2.out.1.mt.cells
        obtain ⟨s0, s1⟩ := HI2.out.2.cells
        clear a0 a1 HI hbl
        unfold Mt.cells at HT1
        rcases HTK.out with ⟨_, k1, _⟩ | k1
        · have HNX2 : Hid (fine B0 (xs.take (i + 1)) = true) := Lib.hid (by rw [HNX.out, k1]; exact decide_eq_true rfl)
          have HX2 : Hid (run B0 (xs.take (i + 1)) = (s.1 ++ [((s.2.fill ti).mark ni 1).2], ((s.2.fill ti).mark ni 1).1)) := Lib.hid (by rw [HX.out]; unfold shotAct; dsimp only; rw [k1])
          rw [k1] at HT1
          clear k1 HTK HNX HX
          generalize (s.2.fill ti).mark ni 1 = X at *
          obtain ⟨bt, ut⟩ := X
          dsimp only at *
          go_wp2_with fail
          refine (HT1.out _).mono ?_
          rintro e w2 ⟨rfl, hb⟩
          have HI3 := Lib.hid (HI2.out.1.later hb)
          obtain ⟨⟨u0, hu0⟩, hfz⟩ := HI3.out.seat bt hi
          have HI4 := Lib.hid (HI3.out.put bt ut)
          rw [HLI.out] at HI4
          have hgq := HI3.out.far
          clear hb HI2
          go_upto_region 10 with (refine wpList_store_mt rfl (.tmp 11) (.tmp 42) rfl g bt s.2 rfl rfl HI3.out.mt ?_)
          generalize (w2.setRow g (Mt.cells bt)).setCell ⟨q, i, none⟩ (.int .i64 ut) = w5 at *
          clear HI3 hu0 hfz
          go_wp2_with fail
          go_roundg k
          case measure => omega
          case rel => exact ⟨i + 1, by go_num, by omega, Lib.hid ⟨by rw [HX2.out]; exact HI4.out, HNX2.out⟩⟩
        · have HNX2 : Hid (fine B0 (xs.take (i + 1)) = false) := Lib.hid (by rw [HNX.out, k1]; decide)
          rw [k1] at HT1
          have HZ2 := Lib.hid (fun W hW => HZ.out W hW (HST.out _ HNX2.out))
          clear k1 HTK HNX HX HZ HST HNX2
          go_wp2_with fail
          refine (HT1.out _).mono ?_
          rintro e w2 ⟨rfl, hb⟩
          have HI3 := Lib.hid (HI2.out.1.later hb)
          obtain ⟨⟨u0, hu0⟩, hfz⟩ := HI3.out.seat Mt.zero hi
          have HI4 := Lib.hid (HI3.out.put Mt.zero 0)
          rw [HLI.out] at HI4
          have hgq := HI3.out.far
          clear hb HI2
          go_upto_region 10 with (refine wpList_store_mt rfl (.tmp 11) (.tmp 42) rfl g Mt.zero s.2 rfl rfl HI3.out.mt ?_)
          generalize (w2.setRow g (Mt.cells Mt.zero)).setCell ⟨q, i, none⟩ (.int .i64 0) = w5 at *
          clear HI3 hu0 hfz
          go_wp2_with (refine wpList_store_mt rfl (.tmp 9) (.tmp 48) rfl w.heap.size Mt.zero Mt.zero rfl rfl HI4.out.res ?_)
          exact bodyPost_ret (results_mt_mid 9 8 10 rfl _ _ rfl (HI4.out.ended Mt.zero).1) rfl (HZ2.out _ (HI4.out.ended Mt.zero).2)
end Go.Proofs.Ytnbjcahhmibmdaa
