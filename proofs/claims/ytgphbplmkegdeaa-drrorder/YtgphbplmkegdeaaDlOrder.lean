/- DrrOrder: what stands first goes first, each once. -/
import Derived.Test.YtgphbplmkegdeaaDl2
import Derived.Test.YtgphbplmkegdeaaDlM
namespace Go.Proofs.Ytgphbplmkegdeaa
open Go.RowKit Go.Maps

/-- A row of slices of one's own, each in a block of its own. -/
structure Rows0 (w wr : World) (gb n : Nat) (G : Nat → List Int) (A : Nat → Option Addr) (c : Nat → Nat) : Prop where
  below : Below w.heap.size w wr
  far : w.heap.size ≤ gb
  row : wr.rowIs gb 22 n (fun j => .slice (A j) (G j).length (c j))
  own : ∀ j, j < n → Fifo w.heap.size wr (A j) (G j) (c j) ∧ (∀ g, Ab (A j) g → g ≠ gb) ∧ ∀ i, i < n → i ≠ j → ∀ g, Ab (A i) g → ¬ Ab (A j) g
def RowsG (w wr : World) (gb n : Nat) (G : Nat → List Int) : Prop := ∃ A c, Rows0 w wr gb n G A c
theorem rows_start (w : World) (n : Nat) {w1 : World} (hb : Below w.heap.size w w1) : RowsG w (laidL w1 n) w1.heap.size n (fun _ => []) :=
  ⟨fun _ => none, fun _ => 0, hb.alloc hb.size _, hb.size, World.rowIs_made w1 (.slice none 0 0) n 22, fun j _ => ⟨Fifo.nil _ _, fun g hg => (by obtain ⟨_, e, _⟩ := hg; cases e), fun i _ _ g hg => (by obtain ⟨_, e, _⟩ := hg; cases e)⟩⟩
theorem Rows0.later {w wr W : World} {gb n : Nat} {G : Nat → List Int} {A : Nat → Option Addr} {c : Nat → Nat} (h : Rows0 w wr gb n G A c) (hb : Below wr.heap.size wr W) : Rows0 w W gb n G A c :=
  ⟨h.below.trans (hb.mono h.below.size), h.far, h.row.of_block (hb.block _ h.row.lt), fun j hj => ⟨(h.own j hj).1.below hb, (h.own j hj).2⟩⟩
theorem RowsG.later {w wr W : World} {gb n : Nat} {G : Nat → List Int} (h : RowsG w wr gb n G) (hb : Below wr.heap.size wr W) : RowsG w W gb n G := by
  obtain ⟨A, c, h⟩ := h
  exact ⟨A, c, h.later hb⟩
theorem RowsG.below {w wr : World} {gb n : Nat} {G : Nat → List Int} (h : RowsG w wr gb n G) : Below w.heap.size w wr := by
  obtain ⟨A, c, h⟩ := h
  exact h.below
theorem RowsG.congr {w wr : World} {gb n : Nat} {G H : Nat → List Int} (h : RowsG w wr gb n G) (e : ∀ j, j < n → G j = H j) : RowsG w wr gb n H := by
  obtain ⟨A, c, h⟩ := h
  exact ⟨A, c, h.below, h.far, h.row.congr fun j hj => by rw [e j hj], fun j hj => by rw [← e j hj]; exact h.own j hj⟩
theorem RowsG.lists {w wr : World} {gb : Nat} {fs : List (List Int)} (h : RowsG w wr gb fs.length (fl fs)) (hn : fs.length ≤ 16) (hl : ∀ f ∈ fs, f.length ≤ 400) : ListsIn wr (some ⟨gb, 0, none⟩) fs := by
  obtain ⟨A, c, h⟩ := h
  refine ⟨fun _ => ⟨gb, 0, rfl, h.row.lt, fun j f hf => ?_⟩, by omega⟩
  have hj := lt_of_some hf
  have hm := hl f (List.mem_of_getElem? hf)
  obtain ⟨ho, -⟩ := h.own j hj
  have e := fl_at hf
  rw [Nat.zero_add, h.row.cell hj]
  rw [e] at ho ⊢
  exact ⟨A j, c j, rfl, ho.ints (by omega), ho.le⟩
/-- An append to one of them. -/
theorem Rows0.push {w wr m : World} {gb n : Nat} {G : Nat → List Int} {A : Nat → Option Addr} {c : Nat → Nat} (h0 : Rows0 w wr gb n G A c) (hm : Below wr.heap.size wr m) {k : Nat} (hk : k < n) {As : Option Addr} {ys : List Int} (hy : IntsIn m As ys) (cs : Nat) (hl : ((G k).length + ys.length) * 8 ≤ 140737488355328) :
    ∃ A' c' W, wr.cell? ⟨gb, k, none⟩ = some (.slice (A k) (G k).length (c k)) ∧ gb < wr.heap.size ∧ (∀ g, g < wr.heap.size → ¬ Ab (A k) g → W.heap[g]? = wr.heap[g]?) ∧
      (∀ ty, (Builtin.append_ #[22, 22] ty #[.slice (A k) (G k).length (c k), .slice As ys.length cs]).run Try.prog m = .ok (.slice A' ((G k).length + ys.length) c') W) ∧
      W.cell? ⟨gb, k, none⟩ = some (.slice (A k) (G k).length (c k)) ∧ W.frozen? ⟨gb, k, none⟩ = false ∧
      RowsG w (W.setCell ⟨gb, k, none⟩ (.slice A' ((G k).length + ys.length) c')) gb n (fun j => if j = k then G k ++ ys else G j) := by
  have h := h0.later hm
  obtain ⟨ho, hne, hd⟩ := h.own k hk
  have hlt := h0.row.lt
  have hs := hm.size
  obtain ⟨A', c', W, hr, hf, hc, hab⟩ := fifo_app ho hy cs h.below.size hl
  have hgb : ¬ Ab (A k) gb := fun hg => hne gb hg rfl
  have hrow := h.row.of_block (hc.block gb (by omega) hgb)
  have hW : Below w.heap.size w W := h.below.trans (hc.below h.below.size fun g hg => (ho.ab g hg).1)
  have hsz : W.heap.size ≤ (W.setCell ⟨gb, k, none⟩ (.slice A' ((G k).length + ys.length) c')).heap.size := by simp [World.setCell]
  have hbl : ∀ g, g ≠ gb → (W.setCell ⟨gb, k, none⟩ (.slice A' ((G k).length + ys.length) c')).heap[g]? = W.heap[g]? := fun g hg => Below.heap_setCell W ⟨gb, k, none⟩ _ g hg
  refine ⟨A', c', W, h0.row.cell hk, hlt, fun g hg hn => (hc.block g (by omega) hn).trans (hm.block g hg), hr, hrow.cell hk, hrow.frozen k, fun j => if j = k then A' else A j, fun j => if j = k then c' else c j, hW.setCell (p := ⟨gb, k, none⟩) h.far _, h.far, (hrow.set k _).congr fun j _ => ?_, fun j hj => ?_⟩
  · by_cases e : j = k
    · rw [if_pos e, if_pos e, if_pos e, if_pos e, List.length_append]
    · rw [if_neg e, if_neg e, if_neg e, if_neg e]
  · have hA' : ∀ g, Ab A' g → g ≠ gb := fun g hg => by
      rcases hab g hg with h1 | h1
      · exact hne g h1
      · omega
    by_cases e : j = k
    · rw [if_pos e, if_pos e, if_pos e]
      refine ⟨hf.of_blocks hsz fun g hg _ => hbl g (hA' g hg), hA', fun i hi hij g hg h1 => ?_⟩
      subst e
      rw [if_neg hij] at hg
      rcases hab g h1 with h2 | h2
      · exact hd i hi hij g hg h2
      · have := ((h.own i hi).1.ab g hg).2
        omega
    · rw [if_neg e, if_neg e, if_neg e]
      obtain ⟨oj, nj, dj⟩ := h.own j hj
      refine ⟨(oj.chg hc fun g hg => dj k hk (fun e' => e e'.symm) g |> fun f hk' => f hk' hg).of_blocks hsz fun g hg _ => hbl g (nj g hg), nj, fun i hi hij g hg h1 => ?_⟩
      by_cases ei : i = k
      · rw [if_pos ei] at hg
        rcases hab g hg with h2 | h2
        · exact dj k hk (fun e' => e e'.symm) g h2 h1
        · have := (oj.ab g h1).2
          omega
      · rw [if_neg ei] at hg
        exact dj i hi hij g hg h1

theorem flowOf_snoc2 (j : Nat) (l : List (Nat × Int)) (a : Nat) (b : Int) : flowOf j (l ++ [(a, b)]) = if j = a then flowOf a l ++ [b] else flowOf j l := by
  rw [flowOf_append]
  unfold flowOf
  rw [List.filterMap_cons]
  by_cases h : j = a
  · subst h
    rw [if_pos rfl, if_pos rfl]
    simp
  · rw [if_neg h, if_neg (fun e => h e.symm)]
    simp
set_option maxRecDepth 100000 in
set_option maxHeartbeats 16000000 in
theorem drrOrder_law {w : World} {P Q : Option Addr} {xs : List Int} {fs : List (List Int)} (hx : IntsIn w P xs) (hy : ListsIn w Q fs) (cx cy : Nat) (r : Int) :
    Calls Try.prog 6 #[.slice P xs.length cx, .slice Q fs.length cy, .int .i64 r] w fun e w' => e = .returned (.bool true) ∧ Below w.heap.size w w' := by
  have HA := Lib.hid alive14_any
  have HE := Lib.hid (fun W (hW : Below w.heap.size w W) => rounds_any (hx.below hW) (hy.below hW) cx cy r)
  unfold Out at HE
  rcases rounds_way xs fs r with ⟨h12, he⟩ | ⟨_, hR, q, rfl, hq, he⟩
  · have hE : (roundsErr xs fs r != 0) = true := by rcases h12 with h | h <;> rw [h] <;> rfl
    rw [he] at HE
    generalize roundsErr xs fs r = E at *
    clear hx hy h12 he
    simp only [List.length_nil] at HE
    go_enter Try.func6, Try.ntmps6
    go_wp2_with fail
    refine (HA.out _).mono ?_
    rintro e w1 ⟨rfl, hb⟩
    have H1 := Lib.hid hb
    clear hb HA
    go_wp2_with fail
    refine (HE.out _ H1.out).mono ?_
    rintro e w2 ⟨A, cA, B, cB, D, cD, rfl, -, -, -, hb, -⟩
    have H2 := Lib.hid (H1.out.trans (hb.mono H1.out.size))
    clear hb HE H1
    go_wp2_with fail
    go_ret
    exact ⟨rfl, H2.out⟩
  · rw [he] at HE
    obtain ⟨n, hn⟩ : ∃ n, xs.length = n := ⟨_, rfl⟩
    have hm : fs.length = n := by rw [hR.len, hn]
    have h16 : n ≤ 16 := by rw [← hn]; exact hR.few
    have HPY := Lib.hid (fun W (hW : Below w.heap.size w W) => hy.below hW)
    simp only [outL_length, outC_length] at HE
    have HSL := Lib.hid (outS_len (ms := List.replicate xs.length 0) hR q)
    have HSB := Lib.hid (fun p (hp : p ∈ outS xs fs (List.replicate xs.length 0) q) => outS_lt p hp)
    have HFL := Lib.hid (fun j (hj : j < xs.length) => And.intro (flow_outS (fs := fs) (ms := List.replicate xs.length 0) (r := q) hj) (And.intro (outL_at (fs := fs) (ms := List.replicate xs.length 0) q hj) (And.intro (fD_split xs fs (List.replicate xs.length 0) q j) (fD_len (ms := List.replicate xs.length 0) hR q j))))
    have HLL := Lib.hid (outL_length xs fs (List.replicate xs.length 0) q)
    have HFS := Lib.hid (And.intro hm (fun f hf => (hR.flows f hf).1))
    rw [hn, hm] at HE
    rw [hn] at HSL HSB HFL HLL
    rw [hn, hm]
    generalize outS xs fs (List.replicate n 0) q = S at *
    generalize outL xs fs (List.replicate n 0) q = L at *
    generalize outC xs fs (List.replicate n 0) q = C at *
    have hmk := make_lists n h16
    have HMK := Lib.hid hmk
    clear hx hy he hR hn hm hq hmk
    go_enter Try.func6, Try.ntmps6
    go_wp2_with fail
    refine (HA.out _).mono ?_
    rintro e w1 ⟨rfl, hb⟩
    have H1 := Lib.hid hb
    clear hb HA
    go_wp2_with fail
    refine (HE.out _ H1.out).mono ?_
    rintro e w2 ⟨A, cA, B, cB, D, cD, rfl, hS, hL, -, hb, -⟩
    have H2 := Lib.hid (And.intro (H1.out.trans (hb.mono H1.out.size)) (And.intro hS hL))
    clear hb HE H1 hS hL
    obtain ⟨sl, hsl⟩ : ∃ sl, S.length = sl := ⟨_, rfl⟩
    have HSN := Lib.hid hsl
    rw [hsl]
    have hs6 : sl ≤ 6400 := by rw [← hsl]; exact HSL.out
    clear hsl
    have hmk := HMK.out
    go_upto_region 7 with fail
    have H3 : Hid (RowsG w2 (laidL w2 n) w2.heap.size n (fun _ => [])) := Lib.hid (rows_start w2 n (Below.refl _ _))
    clear hmk HMK
    generalize laidL w2 n = w3 at *
    obtain ⟨gb, hgb⟩ : ∃ gb, w2.heap.size = gb := ⟨_, rfl⟩
    rw [hgb] at H3 ⊢
    clear hgb
    go_wp2_with fail
    go_loopg [33] sl (fun z c wi => ∃ i : Nat, c = .int .i64 (i : Int) ∧ i + z = sl ∧ Hid (RowsG w2 wi gb n (fun j => flowOf j (S.take i))))
    case atStart => exact ⟨0, rfl, by omega, H3⟩
    case round =>
      clear H3
      obtain ⟨i, rfl, hik, HI⟩ := hrel
      cases gk with
      | succ z =>
        have hi : i < sl := by omega
        have i1 : (i : Int) < (sl : Int) := by have := HSL.out; omega
        have HSL2 : Hid (i < 6400) := Lib.hid (by have := HSL.out; have := HSN.out; omega)
        obtain ⟨b0, o0, a, b, rfl, hx, ⟨d0, d1⟩, -⟩ := (H2.out.2.1.below HI.out.below).next (i := i) (by rw [HSN.out]; exact hi)
        have ha : a < n := HSB.out _ (List.mem_of_getElem? hx)
        have a1 : (a : Int) < (n : Int) := by omega
        obtain ⟨T0, T1, TB⟩ := laidT_at wr (a : Int) b
        obtain ⟨Af, cf, H0⟩ := HI.out
        have hgx : ¬ Ab (Af a) wr.heap.size := fun hg => by have := ((H0.own a ha).1.ab _ hg).2; omega
        have hgne : wr.heap.size ≠ gb := fun e => by have := H0.row.lt; omega
        have H4 := Lib.hid (H0.later TB)
        have HX : Hid (∀ j, (if j = a then flowOf a (S.take i) ++ [b] else flowOf j (S.take i)) = flowOf j (S.take (i + 1))) := Lib.hid (fun j => by rw [take_snocS hx, flowOf_snoc2])
        have hll : (flowOf a (S.take i)).length ≤ 6400 := Nat.le_trans (List.length_filterMap_le _ _) (by rw [List.length_take]; have := HSL2.out; omega)
        have HIK := Lib.hid hik
        have gx1 : wr.heap.size < (laidT wr (a : Int) b).heap.size := by simp [laidT]
        clear hx HI TB hik HSL2 H0
        go_upto_region 10 with fail
        change Code.wp _ _ _ _ (laidT wr (a : Int) b)
        clear d0 d1
        generalize laidT wr (a : Int) b = m0 at *
        generalize wr.heap.size = gx at *
        have bm : Below m0.drew.heap.size m0.drew (m0.drew.alloc (.cells #[.int .i64 b] 3)) := (Below.refl _ _).alloc (Nat.le_refl _) _
        have hy : IntsIn (m0.drew.alloc (.cells #[.int .i64 b] 3)) (some ⟨m0.heap.size, 0, none⟩) [b] := ⟨fun _ => ⟨m0.heap.size, 0, rfl, (by show m0.heap.size < (m0.drew.alloc _).heap.size; simp), fun j x hx => by
          cases j with
          | zero =>
            simp only [List.getElem?_cons_zero, Option.some.injEq] at hx
            subst hx
            exact cell_of_row _ _ 0 _ _ _ (heap_alloc_new m0.drew _)
          | succ j => simp at hx⟩, by simp⟩
        obtain ⟨A2, c2, W, hcell, hlt, hold, hrun, s0, s1, hG⟩ := (H4.out.later (Below.refl m0.heap.size m0).drew).push bm ha hy 1 (by simp only [List.length_cons, List.length_nil]; omega)
        have hcell : m0.cell? ⟨gb, a, none⟩ = some (.slice (Af a) (flowOf a (S.take i)).length (cf a)) := hcell
        have T2 : W.cell? ⟨gx, 0, none⟩ = some (.int .i64 (a : Int)) := (World.cell?_of_block (hold gx gx1 hgx)).trans T0
        have T3 : W.cell? ⟨gx, 1, none⟩ = some (.int .i64 b) := (World.cell?_of_block (hold gx gx1 hgx)).trans T1
        have hlt : gb < m0.heap.size := hlt
        simp only [List.length_cons, List.length_nil, Nat.zero_add] at hrun hG
        have HRUN := Lib.hid hrun
        have HG := Lib.hid (hG.congr fun j _ => HX.out j)
        have hgb2 : gx ≠ gb := hgne
        clear hy hrun hG H4 HX hll hold hgx
        generalize Af a = A1 at *
        generalize cf a = c1 at *
        generalize (flowOf a (S.take i)).length = lk at *
        have HS1 : Hid ((fun W : World => W.cell? ⟨gx, 0, none⟩ = some (.int .i64 (a : Int)) ∧ W.cell? ⟨gx, 1, none⟩ = some (.int .i64 b)) (m0.drew.alloc (.cells #[.int .i64 b] 3))) := Lib.hid ⟨(bm.cell (p := ⟨gx, 0, none⟩) gx1).trans T0, (bm.cell (p := ⟨gx, 1, none⟩) gx1).trans T1⟩
        have HS5 : Hid ((fun W : World => W.cell? ⟨gx, 0, none⟩ = some (.int .i64 (a : Int)) ∧ W.cell? ⟨gx, 1, none⟩ = some (.int .i64 b)) (W.setCell ⟨gb, a, none⟩ (.slice A2 (lk + 1) c2))) := Lib.hid (by
          have hb := Below.heap_setCell W ⟨gb, a, none⟩ (.slice A2 (lk + 1) c2) gx hgb2
          exact ⟨(World.cell?_of_block hb).trans T2, (World.cell?_of_block hb).trans T3⟩)
        clear bm hgb2
        go_upto_region 12 with fail
        refine wp_region_held_drew (S := (fun W : World => W.cell? ⟨gx, 0, none⟩ = some (.int .i64 (a : Int)) ∧ W.cell? ⟨gx, 1, none⟩ = some (.int .i64 b))) (by kernel_rfl) ⟨T0, T1⟩ (fun hHeld => ?_)
        refine wpAnyH_take (i := 0) (v := ?_) (by simp only [List.getElem?_toArray, List.getElem?_cons_zero] <;> rfl) (by kernel_rfl) (by kernel_rfl) (by kernel_rfl) (by exact fun _ _ _ h => h) (Or.inl ⟨by rfl, ?_⟩) hHeld ?_
        rotate_left
        · intro w hSw; (try dsimp only at hSw); go_simp; (try with_reducible rfl)
        (try simp only [Act.put, List.setIfInBounds_toArray, List.set_cons_zero, List.set_cons_succ])
        refine wpAnyH_take (i := 1) (v := ?_) (by simp only [List.getElem?_toArray, List.getElem?_cons_succ, List.getElem?_cons_zero] <;> rfl) (by kernel_rfl) (by kernel_rfl) (by kernel_rfl) (by exact fun _ _ _ h => h) (Or.inl ⟨by rfl, ?_⟩) hHeld ?_
        rotate_left
        · intro w hSw; (try dsimp only at hSw); go_simp; (try with_reducible rfl)
        (try simp only [Act.put, List.setIfInBounds_toArray, List.set_cons_zero, List.set_cons_succ])
        refine wpAnyH_take (i := 2) (v := ?_) (by simp only [List.getElem?_toArray, List.getElem?_cons_succ, List.getElem?_cons_zero] <;> rfl) (by kernel_rfl) (by kernel_rfl) (by kernel_rfl) (by exact fun _ _ _ h => h) (Or.inl ⟨by rfl, ?_⟩) hHeld ?_
        rotate_left
        · intro w hSw; (try dsimp only at hSw); go_simp; (try with_reducible rfl)
        (try simp only [Act.put, List.setIfInBounds_toArray, List.set_cons_zero, List.set_cons_succ])
        refine wpAnyH_take (i := 3) (v := ?_) (by simp only [List.getElem?_toArray, List.getElem?_cons_succ, List.getElem?_cons_zero] <;> rfl) (by kernel_rfl) (by kernel_rfl) (by kernel_rfl) (by exact fun _ _ _ h => h) (Or.inl ⟨by rfl, ?_⟩) hHeld ?_
        rotate_left
        · intro w hSw; (try dsimp only at hSw); go_simp; (try with_reducible rfl)
        (try simp only [Act.put, List.setIfInBounds_toArray, List.set_cons_zero, List.set_cons_succ])
        refine wpAnyH_take (i := 4) (v := ?_) (by simp only [List.getElem?_toArray, List.getElem?_cons_succ, List.getElem?_cons_zero] <;> rfl) (by kernel_rfl) (by kernel_rfl) (by kernel_rfl) (by exact fun _ _ _ h => h) (Or.inl ⟨by rfl, ?_⟩) hHeld ?_
        rotate_left
        · intro w hSw; (try dsimp only at hSw); go_simp; (try with_reducible rfl)
        (try simp only [Act.put, List.setIfInBounds_toArray, List.set_cons_zero, List.set_cons_succ])
        refine wpAnyH_take (i := 5) (v := ?_) (by simp only [List.getElem?_toArray, List.getElem?_cons_succ, List.getElem?_cons_zero] <;> rfl) (by kernel_rfl) (by kernel_rfl) (by kernel_rfl) (by exact fun _ _ _ h => h) (Or.inl ⟨by rfl, ?_⟩) hHeld ?_
        rotate_left
        · intro w hSw; (try dsimp only at hSw); go_simp; (try with_reducible rfl)
        (try simp only [Act.put, List.setIfInBounds_toArray, List.set_cons_zero, List.set_cons_succ])
        refine wpAnyH_take (i := 6) (v := ?_) (by simp only [List.getElem?_toArray, List.getElem?_cons_succ, List.getElem?_cons_zero] <;> rfl) (by kernel_rfl) (by kernel_rfl) (by kernel_rfl) (by exact fun _ _ _ h => h) (Or.inl ⟨by rfl, ?_⟩) hHeld ?_
        rotate_left
        · intro w hSw; (try dsimp only at hSw); go_simp; (try with_reducible rfl)
        (try simp only [Act.put, List.setIfInBounds_toArray, List.set_cons_zero, List.set_cons_succ])
        refine wpAnyH_take (i := 8) (v := ?_) (by simp only [List.getElem?_toArray, List.getElem?_cons_succ, List.getElem?_cons_zero] <;> rfl) (by kernel_rfl) (by kernel_rfl) (by kernel_rfl) (by exact fun _ _ _ h => h) (Or.inl ⟨by rfl, ?_⟩) hHeld ?_
        rotate_left
        · intro w hSw; (try dsimp only at hSw); go_simp; (try with_reducible rfl)
        (try simp only [Act.put, List.setIfInBounds_toArray, List.set_cons_zero, List.set_cons_succ])
        refine wpAnyH_take (i := 9) (v := ?_) (by simp only [List.getElem?_toArray, List.getElem?_cons_succ, List.getElem?_cons_zero] <;> rfl) (by kernel_rfl) (by kernel_rfl) (by kernel_rfl) (by exact fun _ _ _ h => h) (Or.inl ⟨by rfl, ?_⟩) hHeld ?_
        rotate_left
        · intro w hSw; (try dsimp only at hSw); go_simp; (try with_reducible rfl)
        (try simp only [Act.put, List.setIfInBounds_toArray, List.set_cons_zero, List.set_cons_succ])
        refine wpAnyH_ready (rs := [7, 10]) (by kernel_rfl) (by simp) ?_
        refine AllReadyH.cons (by simp only [List.getElem?_toArray, List.getElem?_cons_succ, List.getElem?_cons_zero] <;> rfl) (fun K hK => ?_) (AllReadyH.cons (by simp only [List.getElem?_toArray, List.getElem?_cons_succ, List.getElem?_cons_zero] <;> rfl) (fun K hK => ?_) AllReadyH.nil)
        · go_simp
          refine hK.out _ _ ?_ (fun hHeld => ?_)
          · exact hHeld
          clear hK K
          (try simp only [Act.put, List.setIfInBounds_toArray, List.set_cons_zero, List.set_cons_succ])
          refine wpAnyH_ready (rs := [10]) (by kernel_rfl) (by simp) ?_
          refine AllReadyH.cons (by simp only [List.getElem?_toArray, List.getElem?_cons_succ, List.getElem?_cons_zero] <;> rfl) (fun K hK => ?_) AllReadyH.nil
          go_simp
          refine hK.out _ _ ?_ (fun hHeld => ?_)
          · exact HS1.out
          clear hK K
          (try simp only [Act.put, List.setIfInBounds_toArray, List.set_cons_zero, List.set_cons_succ])
          refine wpAnyH_ready (rs := [11]) (by kernel_rfl) (by simp) ?_
          refine AllReadyH.cons (by simp only [List.getElem?_toArray, List.getElem?_cons_succ, List.getElem?_cons_zero] <;> rfl) (fun K hK => ?_) AllReadyH.nil
          refine step_append_g rfl (.tmp 54) (.tmp 57) 22 rfl (by rfl) (by rfl) (HRUN.out _) ?_
          refine hK.out _ _ ?_ (fun hHeld => ?_)
          · exact ⟨T2, T3⟩
          clear hK K
          (try simp only [Act.put, List.setIfInBounds_toArray, List.set_cons_zero, List.set_cons_succ])
          refine wpAnyH_take (i := 12) (v := ?_) (by simp only [List.getElem?_toArray, List.getElem?_cons_succ, List.getElem?_cons_zero] <;> rfl) (by kernel_rfl) (by kernel_rfl) (by kernel_rfl) (by exact fun _ _ _ h => h) (Or.inl ⟨by rfl, ?_⟩) hHeld ?_
          rotate_left
          · intro w hSw; (try dsimp only at hSw); go_simp; (try with_reducible rfl)
          (try simp only [Act.put, List.setIfInBounds_toArray, List.set_cons_zero, List.set_cons_succ])
          refine wpAnyH_ready (rs := [13]) (by kernel_rfl) (by simp) ?_
          refine AllReadyH.cons (by simp only [List.getElem?_toArray, List.getElem?_cons_succ, List.getElem?_cons_zero] <;> rfl) (fun K hK => ?_) AllReadyH.nil
          go_simp
          refine hK.out _ _ ?_ (fun hHeld => ?_)
          · exact HS5.out
          clear hK K
          (try simp only [Act.put, List.setIfInBounds_toArray, List.set_cons_zero, List.set_cons_succ])
          refine wpAnyH_done (by kernel_rfl) ?_ _
          clear hcell hlt HRUN s0 s1 T0 T1 T2 T3 gx1 HS1 HS5
          generalize W.setCell ⟨gb, a, none⟩ (.slice A2 (lk + 1) c2) = w5 at *
          go_wp2_with fail
          go_roundg z
          case measure => omega
          case rel => exact ⟨i + 1, by go_num, by have := HIK.out; omega, HG⟩
        · go_simp
          refine hK.out _ _ ?_ (fun hHeld => ?_)
          · exact HS1.out
          clear hK K
          (try simp only [Act.put, List.setIfInBounds_toArray, List.set_cons_zero, List.set_cons_succ])
          refine wpAnyH_ready (rs := [7]) (by kernel_rfl) (by simp) ?_
          refine AllReadyH.cons (by simp only [List.getElem?_toArray, List.getElem?_cons_succ, List.getElem?_cons_zero] <;> rfl) (fun K hK => ?_) AllReadyH.nil
          go_simp
          refine hK.out _ _ ?_ (fun hHeld => ?_)
          · exact hHeld
          clear hK K
          (try simp only [Act.put, List.setIfInBounds_toArray, List.set_cons_zero, List.set_cons_succ])
          refine wpAnyH_ready (rs := [11]) (by kernel_rfl) (by simp) ?_
          refine AllReadyH.cons (by simp only [List.getElem?_toArray, List.getElem?_cons_succ, List.getElem?_cons_zero] <;> rfl) (fun K hK => ?_) AllReadyH.nil
          refine step_append_g rfl (.tmp 54) (.tmp 57) 22 rfl (by rfl) (by rfl) (HRUN.out _) ?_
          refine hK.out _ _ ?_ (fun hHeld => ?_)
          · exact ⟨T2, T3⟩
          clear hK K
          (try simp only [Act.put, List.setIfInBounds_toArray, List.set_cons_zero, List.set_cons_succ])
          refine wpAnyH_take (i := 12) (v := ?_) (by simp only [List.getElem?_toArray, List.getElem?_cons_succ, List.getElem?_cons_zero] <;> rfl) (by kernel_rfl) (by kernel_rfl) (by kernel_rfl) (by exact fun _ _ _ h => h) (Or.inl ⟨by rfl, ?_⟩) hHeld ?_
          rotate_left
          · intro w hSw; (try dsimp only at hSw); go_simp; (try with_reducible rfl)
          (try simp only [Act.put, List.setIfInBounds_toArray, List.set_cons_zero, List.set_cons_succ])
          refine wpAnyH_ready (rs := [13]) (by kernel_rfl) (by simp) ?_
          refine AllReadyH.cons (by simp only [List.getElem?_toArray, List.getElem?_cons_succ, List.getElem?_cons_zero] <;> rfl) (fun K hK => ?_) AllReadyH.nil
          go_simp
          refine hK.out _ _ ?_ (fun hHeld => ?_)
          · exact HS5.out
          clear hK K
          (try simp only [Act.put, List.setIfInBounds_toArray, List.set_cons_zero, List.set_cons_succ])
          refine wpAnyH_done (by kernel_rfl) ?_ _
          clear hcell hlt HRUN s0 s1 T0 T1 T2 T3 gx1 HS1 HS5
          generalize W.setCell ⟨gb, a, none⟩ (.slice A2 (lk + 1) c2) = w5 at *
          go_wp2_with fail
          go_roundg z
          case measure => omega
          case rel => exact ⟨i + 1, by go_num, by have := HIK.out; omega, HG⟩
      | zero =>
        obtain rfl : i = sl := by omega
        have HJ : Hid (RowsG w2 wr gb n (fun j => if j < 0 then fl fs j else flowOf j S)) := Lib.hid (HI.out.congr fun j _ => by
          rw [if_neg (by omega), List.take_of_length_le (by have := HSN.out; omega)])
        clear HI HSB HSN HSL
        generalize S.length = sl0 at *
        go_wp2_with fail
        go_loopg [63] n (fun z c wi => ∃ i : Nat, c = .int .i64 (i : Int) ∧ i + z = n ∧ Hid (RowsG w2 wi gb n (fun j => if j < i then fl fs j else flowOf j S)))
        case atStart => exact ⟨0, rfl, by omega, HJ⟩
        case round =>
          clear HJ
          obtain ⟨k, rfl, hkz, HI⟩ := hrel
          cases gk with
          | zero =>
            obtain rfl : k = n := by omega
            have HB := Lib.hid (H2.out.1.trans (HI.out.below.mono H2.out.1.size))
            have HG := Lib.hid ((show RowsG w2 wr gb fs.length (fl fs) by rw [HFS.out.1]; exact HI.out.congr fun j hj => if_pos hj).lists (by rw [HFS.out.1]; exact h16) HFS.out.2)
            have HQ := Lib.hid (same_lists HG.out (HPY.out _ HB.out) k cy)
            rw [HFS.out.1] at HQ
            clear HI HG HFL HLL HFS HPY H2
            go_wp2_with fail
            refine HQ.out.mono ?_
            rintro e w6 ⟨rfl, t, rfl⟩
            go_wp2_with fail
            go_ret
            exact ⟨rfl, below_drewN HB.out t⟩
          | succ z =>
            have hk : k < n := by omega
            have k1 : (k : Int) < (n : Int) := by omega
            obtain ⟨e1, e2, e3, e4⟩ := HFL.out k hk
            obtain ⟨b1, o1, f, B1, c1, rfl, g1, g2, g3, -, -⟩ := (H2.out.2.2.below HI.out.below).next (i := k) (by rw [HLL.out]; exact hk)
            rw [e2] at g1
            injection g1 with g1
            subst g1
            obtain ⟨Af, cf, H0⟩ := HI.out
            have bm : Below wr.heap.size wr wr.drew := (Below.refl _ _).drew
            obtain ⟨A2, c2, W, hcell, hlt, hold, hrun, s0, s1, hG⟩ := H0.push (m := wr.drew) bm hk (g3.below bm) c1 (by
              rw [if_neg (by omega), e1]
              omega)
            rw [if_neg (by omega)] at hcell hrun s0 hG
            have HRUN := Lib.hid hrun
            have HG := Lib.hid (hG.congr (H := fun j => if j < k + 1 then fl fs j else flowOf j S) fun j _ => by
              by_cases e : j = k
              · subst e
                rw [if_pos rfl, if_pos (by omega), e1]
                exact e3
              · rw [if_neg e]
                by_cases d : j < k
                · rw [if_pos d, if_pos (by omega)]
                · rw [if_neg d, if_neg (by omega)])
            have HKZ := Lib.hid hkz
            clear bm hrun hG hold e1 e2 e3 e4 g3 H0 HI HFL HLL HFS HPY hkz
            generalize Af k = A1 at *
            generalize cf k = c3 at *
            generalize (flowOf k S).length = lk at *
            generalize (fD xs fs (List.replicate n 0) q k).2.1.length = lf at *
            go_upto_region 19 with fail
            go_region_law (refine step_append_g rfl (.tmp 75) (.tmp 79) 22 rfl (by rfl) (by rfl) (HRUN.out _) ?_)
            all_goals
              clear hcell hlt HRUN s0 s1 g2
              generalize W.setCell ⟨gb, k, none⟩ (.slice A2 (lk + lf) c2) = w5 at *
              go_wp2_with fail
              go_roundg z
              case measure => omega
              case rel => exact ⟨k + 1, by go_num, by have := HKZ.out; omega, HG⟩
theorem drrOrder_walk {w : World} {P Q : Option Addr} {xs : List Int} {fs : List (List Int)} {n m : Nat} (hx : IntsIn w P xs) (h1 : xs.length = n) (hy : ListsIn w Q fs) (h2 : fs.length = m) (cx cy : Nat) (r : Int) :
    Calls Try.prog 6 #[.slice P n cx, .slice Q m cy, .int .i64 r] w fun e w' => e = .returned (.bool true) ∧ Below w.heap.size w w' := by
  subst h1 h2
  exact drrOrder_law hx hy cx cy r
end Go.Proofs.Ytgphbplmkegdeaa
