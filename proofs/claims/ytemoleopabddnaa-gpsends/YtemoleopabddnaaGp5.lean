/- Package gps: slices.SortStableFunc of a short slice; Order; Whole. -/
import Derived.Test.YtemoleopabddnaaGp4
namespace Go.Proofs.Ytemoleopabddnaa
open Go.RowKit Go.Maps

set_option maxRecDepth 100000 in
set_option maxHeartbeats 2000000 in
theorem stable_any {w : World} {A B : Option Addr} {xs ys : List Int} {n cx cy g b0 b1 : Nat} (h : ToSort w A B xs ys n cx cy g b0 b1) (hR : Right xs ys) (hn : n ≤ 16) (cap : Nat) :
    Calls Try.prog 35 #[.slice (some ⟨g, 0, none⟩) n cap, .int .i64 (n : Int), .func (.func 21) #[] #[.pointer (some ⟨b0, 0, none⟩), .pointer (some ⟨b1, 0, none⟩)]] w (Sorted w xs ys n g) := by
  have HI := Lib.hid (insertion_any h hR hn cap)
  have HZ : Hid (∀ e W, Sorted w xs ys n g e W → e = .returned (.tuple #[])) := Lib.hid (fun e W hh => hh.1)
  generalize Sorted w xs ys n g = D at *
  have h1 : ¬ 20 ≤ n := by omega
  have h2 : ¬ 20 < n := by omega
  clear h hR
  go_enter Try.func35, Try.ntmps35
  go_wp2_with fail
  go_loopg [7, 8] 0 (fun k a b wr => a = .int .i64 0 ∧ b = .int .i64 20 ∧ wr = w)
  case atStart => exact ⟨rfl, rfl, rfl⟩
  case round =>
    obtain ⟨rfl, rfl, rfl⟩ := hrel
    go_wp2_with fail
    refine HI.out.mono ?_
    rintro e w1 hd
    obtain rfl := HZ.out _ _ hd
    have HD := Lib.hid hd
    clear hd HI HZ
    go_wp2_with fail
    go_loopg [6] 0 (fun k a wi => a = .int .i64 20 ∧ wi = w1)
    case atStart => exact ⟨rfl, rfl⟩
    case round =>
      obtain ⟨rfl, rfl⟩ := hrel
      go_wp2_with fail
      go_end0
      exact HD.out
set_option maxRecDepth 100000 in
set_option maxHeartbeats 2000000 in
theorem sort_any {w : World} {A B : Option Addr} {xs ys : List Int} {n cx cy g b0 b1 : Nat} (h : ToSort w A B xs ys n cx cy g b0 b1) (hR : Right xs ys) (hn : n ≤ 16) (cap : Nat) :
    Calls Try.prog 20 #[.slice (some ⟨g, 0, none⟩) n cap, .func (.func 21) #[] #[.pointer (some ⟨b0, 0, none⟩), .pointer (some ⟨b1, 0, none⟩)]] w (Sorted w xs ys n g) := by
  have HI := Lib.hid (stable_any h hR hn cap)
  have HZ : Hid (∀ e W, Sorted w xs ys n g e W → e = .returned (.tuple #[])) := Lib.hid (fun e W hh => hh.1)
  generalize Sorted w xs ys n g = D at *
  clear h hR
  go_enter Try.func20, Try.ntmps20
  go_wp2_with fail
  refine HI.out.mono ?_
  rintro e w1 hd
  obtain rfl := HZ.out _ _ hd
  have HD := Lib.hid hd
  clear hd HI HZ
  go_wp2_with fail
  go_end0
  exact HD.out

/-- Two slices in boxes behind w, the places in the row behind them. -/
structure AInv (w wr : World) (A B : Option Addr) (n cx cy i : Nat) : Prop where
  below : Below w.heap.size w wr
  c0 : wr.heap[w.heap.size]? = some (.cells #[.slice A n cx] 22 (0, 0))
  c1 : wr.heap[w.heap.size + 1]? = some (.cells #[.slice B n cy] 22 (0, 0))
  row : ∃ F : Nat → Value, wr.rowIs (w.heap.size + 2) 3 n F ∧ ∀ j : Nat, (j < i → F j = .int .i64 (j : Int)) ∧ (i ≤ j → F j = .int .i64 0)
def laidAB (w : World) (A B : Option Addr) (n m cx cy : Nat) : World := (w.alloc (.cells #[.slice A n cx] 22)).alloc (.cells #[.slice B m cy] 22)
theorem laidAB_at (w : World) (A B : Option Addr) (n m cx cy : Nat) : (laidAB w A B n m cx cy).heap[w.heap.size]? = some (.cells #[.slice A n cx] 22 (0, 0)) ∧ (laidAB w A B n m cx cy).heap[w.heap.size + 1]? = some (.cells #[.slice B m cy] 22 (0, 0)) ∧ Below w.heap.size w (laidAB w A B n m cx cy) ∧ (laidAB w A B n m cx cy).heap.size = w.heap.size + 2 := by
  have b1 : Below w.heap.size w (w.alloc (.cells #[.slice A n cx] 22)) := (Below.refl _ _).alloc (Nat.le_refl _) _
  have hs : (w.alloc (.cells #[.slice A n cx] 22)).heap.size = w.heap.size + 1 := by simp
  have h2 := heap_alloc_new (w.alloc (.cells #[.slice A n cx] 22)) (.cells #[.slice B m cy] 22)
  rw [hs] at h2
  refine ⟨?_, h2, b1.alloc (by omega) _, by simp [laidAB]⟩
  exact (Below.heap_alloc (w.alloc (.cells #[.slice A n cx] 22)) (.cells #[.slice B m cy] 22) w.heap.size (by rw [hs]; omega)).trans (heap_alloc_new w _)
namespace AInv
variable {w wr : World} {A B : Option Addr} {n cx cy i : Nat}
theorem cells (h : AInv w wr A B n cx cy i) : wr.cell? ⟨w.heap.size, 0, none⟩ = some (.slice A n cx) ∧ wr.cell? ⟨w.heap.size + 1, 0, none⟩ = some (.slice B n cy) := ⟨cell_of_row _ _ 0 _ _ _ h.c0, cell_of_row _ _ 0 _ _ _ h.c1⟩
theorem seat (h : AInv w wr A B n cx cy i) (hi : i < n) : wr.cell? ⟨w.heap.size + 2, i, none⟩ = some (.int .i64 0) ∧ wr.frozen? ⟨w.heap.size + 2, i, none⟩ = false := by
  obtain ⟨F, hr, hF⟩ := h.row
  exact ⟨by rw [hr.cell hi, (hF i).2 (Nat.le_refl _)], hr.frozen _⟩
theorem put (h : AInv w wr A B n cx cy i) : AInv w (wr.setCell ⟨w.heap.size + 2, i, none⟩ (.int .i64 (i : Int))) A B n cx cy (i + 1) := by
  obtain ⟨F, hr, hF⟩ := h.row
  refine ⟨h.below.setCell (by show w.heap.size ≤ w.heap.size + 2; omega) _, ?_, ?_, ⟨_, hr.set i (.int .i64 (i : Int)), fun j => ⟨fun hj => ?_, fun hj => ?_⟩⟩⟩
  · exact (heap_setCell_other wr ⟨w.heap.size + 2, i, none⟩ w.heap.size _ (by show w.heap.size ≠ w.heap.size + 2; omega)).trans h.c0
  · exact (heap_setCell_other wr ⟨w.heap.size + 2, i, none⟩ (w.heap.size + 1) _ (by show w.heap.size + 1 ≠ w.heap.size + 2; omega)).trans h.c1
  · by_cases c : j = i
    · subst c; rw [if_pos rfl]
    · rw [if_neg c]; exact (hF j).1 (by omega)
  · rw [if_neg (by omega)]; exact (hF j).2 (by omega)
theorem ready (h : AInv w wr A B n cx cy n) {xs ys : List Int} (hx : IntsIn w A xs) (hy : IntsIn w B ys) (nx : xs.length = n) (ny : ys.length = n) : ToSort wr A B xs ys n cx cy (w.heap.size + 2) w.heap.size (w.heap.size + 1) := by
  obtain ⟨F, hr, hF⟩ := h.row
  have hs := hr.lt
  refine ⟨hx.below h.below, hy.below h.below, nx, ny, h.cells.1, h.cells.2, by omega, by omega, hr.congr fun j hj => (hF j).1 hj, fun k hk => ?_⟩
  have old : ∀ {C : Option Addr} {zs : List Int}, IntsIn w C zs → 0 < zs.length → Ab C k → k < w.heap.size := fun hz h0 hk => by
    obtain ⟨b, off, e, hl, _⟩ := hz.at_ h0
    obtain ⟨a, e2, rfl⟩ := hk
    rw [e] at e2
    injection e2 with e2
    subst e2
    exact hl
  rcases hk with ⟨h0, hk | hk⟩ | rfl | rfl
  · have := old hx (by omega) hk
    omega
  · have := old hy (by omega) hk
    omega
  · omega
  · omega
end AInv
/-- What Order answers. -/
def places (o : Nat → Nat) (n : Nat) : List Int := (List.range n).map fun j => (o j : Int)
theorem places_length (o : Nat → Nat) (n : Nat) : (places o n).length = n := by simp [places]
theorem places_at {o : Nat → Nat} {n j : Nat} {x : Int} (h : (places o n)[j]? = some x) : j < n ∧ x = (o j : Int) := by
  unfold places at h
  rw [List.getElem?_map, Option.map_eq_some_iff] at h
  obtain ⟨k, hk, rfl⟩ := h
  obtain ⟨hj, rfl⟩ := List.getElem?_eq_some_iff.1 hk
  rw [List.length_range] at hj
  rw [List.getElem_range]
  exact ⟨hj, rfl⟩
def Ordered (w : World) (xs ys : List Int) (e : Ending) (w' : World) : Prop := ∃ o, Srt xs ys xs.length o ∧ Got w (places o xs.length) 0 e w'

set_option maxRecDepth 100000 in
set_option maxHeartbeats 4000000 in
theorem order_ok {w : World} {A B : Option Addr} {xs ys : List Int} (hx : IntsIn w A xs) (hy : IntsIn w B ys) (hR : Right xs ys) (h0 : wrongL xs ys = 0) (cx cy : Nat) :
    Calls Try.prog 10 #[.slice A xs.length cx, .slice B ys.length cy] w (Ordered w xs ys) := by
  obtain ⟨n, hn⟩ : ∃ n, xs.length = n := ⟨_, rfl⟩
  have hm : ys.length = n := by rw [hR.len, hn]
  have h16 : n ≤ 16 := by rw [← hn]; exact hR.few
  have HX := Lib.hid (laidAB_at w A B n n cx cy)
  have HW := Lib.hid (wrong_any (hx.below (laidAB_at w A B n n cx cy).2.2.1) (hy.below (laidAB_at w A B n n cx cy).2.2.1) cx cy)
  rw [h0, hn, hm] at HW
  have HS : Hid (∀ W, AInv w W A B n cx cy n → Calls Try.prog 20 #[.slice (some ⟨w.heap.size + 2, 0, none⟩) n n, .func (.func 21) #[] #[.pointer (some ⟨w.heap.size, 0, none⟩), .pointer (some ⟨w.heap.size + 1, 0, none⟩)]] W (fun e W' => e = .returned (.tuple #[]) ∧ Ordered w xs ys (.returned (.tuple #[.slice (some ⟨w.heap.size + 2, 0, none⟩) n n, .int .i64 0])) W')) := Lib.hid (fun W hW => by
    refine (sort_any (hW.ready hx hy hn hm) hR h16 n).mono ?_
    rintro e W' ⟨he, a, hs, hu⟩
    have hb := hW.below
    have hB : Below w.heap.size w W' := ⟨hu.chg.os.trans hb.os, hu.chg.tape.trans hb.tape, hu.chg.output.trans hb.output, Nat.le_trans hb.size hu.chg.size, fun k hk => (hu.chg.block k (Nat.lt_of_lt_of_le hk hb.size) (by omega)).trans (hb.block k hk)⟩
    refine ⟨he, a, by rw [hn]; exact hs, some ⟨w.heap.size + 2, 0, none⟩, n, by rw [places_length, hn], ?_, hB⟩
    rw [hn]
    exact (RowI.mk (h := fun j => (a j : Int)) hB (by omega) hu.row).ints h16)
  rw [hn, hm]
  generalize Ordered w xs ys = D at *
  have hmk := run_make_row' (P := Try.prog) 22 3 (.int .i64 0) 8 Try.underlying22 (by kernel_rfl) rfl .i64 .i64 n (by omega) (by omega)
  clear hx hy hR hn hm h0
  go_enter Try.func10, Try.ntmps10
  go_upto_region 1 with fail
  change Code.wp _ _ _ _ (laidAB w A B n n cx cy)
  generalize laidAB w A B n n cx cy = m at *
  have c0 := cell_of_row _ _ 0 _ _ _ HX.out.1
  have c1 := cell_of_row _ _ 0 _ _ _ HX.out.2.1
  go_wp2_with fail
  refine HW.out.mono ?_
  rintro e w1 ⟨rfl, rfl⟩
  clear HW
  go_upto_region 5 with fail
  have HI : Hid (AInv w (m.alloc (.cells (madeCells #[.int .i64 0] n) 3)) A B n cx cy 0) := Lib.hid (by
    have hs := HX.out.2.2.2
    have bo : Below m.heap.size m (m.alloc (.cells (madeCells #[.int .i64 0] n) 3)) := (Below.refl _ _).alloc (Nat.le_refl _) _
    refine ⟨HX.out.2.2.1.trans (bo.mono (by omega)), (bo.block _ (by omega)).trans HX.out.1, (bo.block _ (by omega)).trans HX.out.2.1, ⟨fun _ => .int .i64 0, ?_, fun j => ⟨fun h => absurd h (by omega), fun _ => rfl⟩⟩⟩
    have := World.rowIs_made m (.int .i64 0) n 3
    rwa [hs] at this)
  have hsz := HX.out.2.2.2
  rw [hsz]
  clear c0 c1 hmk HX hsz
  generalize m.alloc (.cells (madeCells #[.int .i64 0] n) 3) = w3 at *
  go_wp2_with fail
  go_loopg [20] n (fun k c wr => ∃ i : Nat, c = .int .i64 (i : Int) ∧ i + k = n ∧ Hid (AInv w wr A B n cx cy i))
  case atStart => exact ⟨0, rfl, by omega, HI⟩
  case round =>
    clear HI
    obtain ⟨i, rfl, hik, HI⟩ := hrel
    cases gk with
    | zero =>
      obtain rfl : i = n := by omega
      have HS2 := Lib.hid (HS.out _ HI.out)
      clear HS HI
      go_wp2_with fail
      refine HS2.out.mono ?_
      rintro e W' ⟨rfl, hd⟩
      have HD := Lib.hid hd
      clear hd HS2
      go_wp2_with fail
      exact HD.out
    | succ k =>
      have hi : i < n := by omega
      have i1 : (i : Int) < (n : Int) := by omega
      obtain ⟨c0, c1⟩ := HI.out.seat hi
      have HJ := Lib.hid HI.out.put
      clear HI HS
      go_wp2_with fail
      go_roundg k
      case measure => omega
      case rel => exact ⟨i + 1, by go_num, by omega, HJ⟩
theorem order_no {w : World} {A B : Option Addr} {xs ys : List Int} (hx : IntsIn w A xs) (hy : IntsIn w B ys) {err : Int} (h0 : wrongL xs ys = err) (h1 : err = 1 ∨ err = 2) (cx cy : Nat) :
    Calls Try.prog 10 #[.slice A xs.length cx, .slice B ys.length cy] w (Got w [] err) := by
  have hX := laidAB_at w A B xs.length ys.length cx cy
  have HW := Lib.hid (wrong_any (hx.below hX.2.2.1) (hy.below hX.2.2.1) cx cy)
  rw [h0] at HW
  have HZ := Lib.hid (got_none (err := err) hX.2.2.1)
  have hb : (err != 0) = true := by rcases h1 with rfl | rfl <;> rfl
  have c0 := cell_of_row _ _ 0 _ _ _ hX.1
  have c1 := cell_of_row _ _ 0 _ _ _ hX.2.1
  generalize Got w [] err = D at *
  generalize xs.length = n at *
  generalize ys.length = m at *
  clear hx hy h0 h1 hX
  go_enter Try.func10, Try.ntmps10
  go_upto_region 1 with fail
  change Code.wp _ _ _ _ (laidAB w A B n m cx cy)
  generalize laidAB w A B n m cx cy = m1 at *
  go_wp2_with fail
  refine HW.out.mono ?_
  rintro e w1 ⟨rfl, rfl⟩
  clear HW
  go_wp2_with fail
  exact HZ.out

/-- What Whole answers. -/
def Wholed (w : World) (xs ys : List Int) (e : Ending) (w' : World) : Prop :=
  ∃ (o : Nat → Nat) (h : Nat → Int), Srt xs ys xs.length o ∧ (∀ p, p < xs.length → h (o p) = su (fun q => fn xs (o q)) (p + 1)) ∧ Got w ((List.range xs.length).map h) 0 e w'
set_option maxRecDepth 100000 in
set_option maxHeartbeats 4000000 in
theorem whole_ok {w : World} {A B : Option Addr} {xs ys : List Int} (hx : IntsIn w A xs) (hy : IntsIn w B ys) (hR : Right xs ys) (h0 : wrongL xs ys = 0) (cx cy : Nat) :
    Calls Try.prog 11 #[.slice A xs.length cx, .slice B ys.length cy] w (Wholed w xs ys) := by
  have HO := Lib.hid (order_ok hx hy hR h0 cx cy)
  obtain ⟨n, hn⟩ : ∃ n, xs.length = n := ⟨_, rfl⟩
  have h16 : n ≤ 16 := by rw [← hn]; exact hR.few
  have HPX := Lib.hid (fun W (hW : Below w.heap.size w W) => hx.below hW)
  have HRT := Lib.hid hR
  have HN := Lib.hid hn
  have HZ : Hid (∀ W g o h W0, Srt xs ys n o → (∀ p, p < n → h (o p) = su (fun q => fn xs (o q)) (p + 1)) → Below w.heap.size w W0 → RowI W0 W g n h → Wholed w xs ys (.returned (.tuple #[.slice (some ⟨g, 0, none⟩) n n, .int .i64 0])) W) := Lib.hid (fun W g o h W0 hs hh hb I => by
    refine ⟨o, h, by rw [hn]; exact hs, by rw [hn]; exact hh, some ⟨g, 0, none⟩, n, by simp [hn], ?_, hb.trans (I.below.mono hb.size)⟩
    rw [hn]
    exact I.ints h16)
  unfold Ordered at HO
  rw [hn] at HO ⊢
  generalize Wholed w xs ys = D at *
  generalize ys.length = m at *
  have hmk := run_make_row' (P := Try.prog) 22 3 (.int .i64 0) 8 Try.underlying22 (by kernel_rfl) rfl .i64 .i64 n (by omega) (by omega)
  clear hx hy hR hn h0
  go_enter Try.func11, Try.ntmps11
  go_wp2_with fail
  refine HO.out.mono ?_
  rintro e w1 ⟨o, hs, R, cR, rfl, hr, hb⟩
  rw [places_length]
  have HS := Lib.hid (And.intro hs (And.intro hr hb))
  clear hs hr hb HO
  go_upto_region 5 with fail
  have HI := Lib.hid (RowI.start (Below.refl w1.heap.size w1) n)
  generalize w1.alloc (.cells (madeCells #[.int .i64 0] n) 3) = w2 at *
  obtain ⟨g, hg⟩ : ∃ g, w1.heap.size = g := ⟨_, rfl⟩
  rw [hg] at HI ⊢
  clear hg hmk
  go_wp2_with fail
  go_loopg [9, 26] n (fun k s c wr => ∃ (i : Nat) (S : Int) (h : Nat → Int), s = .int .i64 S ∧ c = .int .i64 (i : Int) ∧ i + k = n ∧ Hid (S = su (fun q => fn xs (o q)) i ∧ (∀ p, p < i → h (o p) = su (fun q => fn xs (o q)) (p + 1)) ∧ RowI w1 wr g n h))
  case atStart => exact ⟨0, 0, fun _ => 0, rfl, rfl, by omega, Lib.hid ⟨rfl, fun p hp => by omega, HI.out⟩⟩
  case round =>
    clear HI
    obtain ⟨i, S, h, rfl, rfl, hik, HI⟩ := hrel
    cases gk with
    | zero =>
      obtain rfl : i = n := by omega
      have HR := Lib.hid (HZ.out _ g o h w1 HS.out.1 HI.out.2.1 HS.out.2.2 HI.out.2.2)
      clear HI HZ HS HPX HRT HN
      go_wp2_with fail
      exact HR.out
    | succ k =>
      have hi : i < n := by omega
      have i1 : (i : Int) < (n : Int) := by omega
      have hBW := HS.out.2.2.trans (HI.out.2.2.below.mono HS.out.2.2.size)
      obtain ⟨b0, o0, t, rfl, ht, hct, _⟩ := (HS.out.2.1.below HI.out.2.2.below).next (i := i) (by rw [places_length]; exact hi)
      obtain ⟨_, rfl⟩ := places_at ht
      have hlo := HS.out.1.low i hi
      obtain ⟨b1, o1, x, rfl, hxx, hcx, _⟩ := (HPX.out _ hBW).next (i := o i) (by rw [HN.out]; exact hlo)
      have hfx := fn_at hxx
      have hbx := HRT.out.want0 (o i)
      rw [hfx] at hbx
      have hSb : 0 ≤ S ∧ S ≤ 16777216 := by
        have h1 : su (fun q => fn xs (o q)) i ≤ 1048576 * (i : Int) := su_bound fun k _ => (HRT.out.want0 (o k)).2
        have h2 : 0 ≤ su (fun q => fn xs (o q)) i := su_nonneg fun k _ => (HRT.out.want0 (o k)).1
        rw [HI.out.1]
        omega
      obtain ⟨S2, q1, hS2⟩ : ∃ S2, wrap64 (S + x) = S2 ∧ S2 = S + x := ⟨_, rfl, IntWalk.wrap64_in _ (by constructor <;> omega)⟩
      have hS3 : S2 = su (fun q => fn xs (o q)) (i + 1) := by rw [hS2, su_succ, hfx, HI.out.1]
      have HJ : Hid (S2 = su (fun q => fn xs (o q)) (i + 1) ∧ (∀ p, p < i + 1 → (if o p = o i then S2 else h (o p)) = su (fun q => fn xs (o q)) (p + 1)) ∧ RowI w1 (wr.setCell ⟨g, o i, none⟩ (.int .i64 S2)) g n (fun j => if j = o i then S2 else h j)) := Lib.hid ⟨hS3, fun p hp => by
        by_cases c : p = i
        · rw [c, if_pos rfl]; exact hS3
        · rw [if_neg (HS.out.1.inj (show p < i by omega) hi)]
          exact HI.out.2.1 p (by omega), HI.out.2.2.put (o i) S2⟩
      obtain ⟨d0, d1⟩ := HI.out.2.2.seat hlo
      have l1 : (o i : Int) < (n : Int) := by omega
      have HIK := Lib.hid hik
      generalize o i = K at *
      clear HI HZ HPX HRT HN ht hlo hxx hfx hbx hSb hS2 hS3 hBW hik
      go_wp2_with fail
      go_roundg k
      case measure => omega
      case rel => exact ⟨i + 1, S2, fun j => if j = K then S2 else h j, by rw [q1], by go_num, by have := HIK.out; omega, HJ⟩
theorem whole_no {w : World} {A B : Option Addr} {xs ys : List Int} (hx : IntsIn w A xs) (hy : IntsIn w B ys) {err : Int} (h0 : wrongL xs ys = err) (h1 : err = 1 ∨ err = 2) (cx cy : Nat) :
    Calls Try.prog 11 #[.slice A xs.length cx, .slice B ys.length cy] w (Got w [] err) := by
  have HO := Lib.hid (order_no hx hy h0 h1 cx cy)
  have hb : (err != 0) = true := by rcases h1 with rfl | rfl <;> rfl
  have HZ : Hid (∀ W, Below w.heap.size w W → Got w [] err (.returned (.tuple #[.slice none 0 0, .int .i64 err])) W) := Lib.hid (fun W hW => got_none hW)
  clear hx hy h0 h1
  go_enter Try.func11, Try.ntmps11
  go_wp2_with fail
  refine HO.out.mono ?_
  rintro e w1 ⟨R, cR, rfl, _, hB⟩
  have HY := Lib.hid (HZ.out _ hB)
  generalize Got w [] err = D at *
  clear HO HZ hB
  go_wp2_with fail
  exact HY.out
end Go.Proofs.Ytemoleopabddnaa
