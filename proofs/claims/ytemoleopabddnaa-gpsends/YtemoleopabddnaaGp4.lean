/- Package gps: the closure of Order; slices.SortStableFunc of a short slice under it. -/
import Derived.Test.YtemoleopabddnaaGp3
import Derived.Test.YtemoleopabddnaaGpSort
import Derived.Test.YtemoleopabddnaaIn2
namespace Go.Proofs.Ytemoleopabddnaa
open Go.RowKit Go.Maps

set_option maxHeartbeats 1000000 in
theorem compare_any (x y : Int) (w : World) : Calls Try.prog 22 #[.int .i64 x, .int .i64 y] w fun e w' => e = .returned (.int .i64 (cmpI x y)) ∧ w = w' := by
  unfold cmpI
  rcases Int.lt_trichotomy x y with c | c | c
  · rw [if_pos c]
    go_enter Try.func22, Try.ntmps22
    go_wp2
    go_ret
    exact ⟨rfl, rfl⟩
  · subst c
    rw [if_neg (by omega)]
    go_enter Try.func22, Try.ntmps22
    go_wp2
    go_ret
    exact ⟨rfl, rfl⟩
  · rw [if_neg (by omega), if_pos c]
    have c2 : ¬ x < y := by omega
    go_enter Try.func22, Try.ntmps22
    go_wp2
    go_ret
    exact ⟨rfl, rfl⟩

set_option maxRecDepth 100000 in
set_option maxHeartbeats 4000000 in
theorem closure_any {w : World} {A B : Option Addr} {xs ys : List Int} {n cx cy b0 b1 : Nat} (hx : IntsIn w A xs) (hy : IntsIn w B ys) (hnx : xs.length = n) (hny : ys.length = n)
    (h0 : w.cell? ⟨b0, 0, none⟩ = some (.slice A n cx)) (h1 : w.cell? ⟨b1, 0, none⟩ = some (.slice B n cy)) (hwx : ∀ k, 0 ≤ fn xs k ∧ fn xs k ≤ 1048576) (hwy : ∀ k, 0 ≤ fn ys k ∧ fn ys k ≤ 1000) {i j : Nat} (hi : i < n) (hj : j < n) :
    Calls Try.prog 21 #[.int .i64 (i : Int), .int .i64 (j : Int), .pointer (some ⟨b0, 0, none⟩), .pointer (some ⟨b1, 0, none⟩)] w fun e w' => e = .returned (.int .i64 (cmpI (fn xs i * fn ys j) (fn xs j * fn ys i))) ∧ ∃ q, w' = w.drewN q := by
  obtain ⟨gx, ox, x1, eA, a1, a2, _⟩ := hx.next (i := i) (by omega)
  obtain ⟨gx', ox', x2, eA', b1', b2, _⟩ := hx.next (i := j) (by omega)
  obtain ⟨gy, oy, y1, eB, c1, c2, _⟩ := hy.next (i := i) (by omega)
  obtain ⟨gy', oy', y2, eB', d1, d2, _⟩ := hy.next (i := j) (by omega)
  subst eA eB
  injection eA' with e1
  injection eB' with e2
  simp only [Addr.mk.injEq, and_true] at e1 e2
  obtain ⟨rfl, rfl⟩ := e1
  obtain ⟨rfl, rfl⟩ := e2
  have f1 := hwx i
  have f2 := hwx j
  have f3 := hwy i
  have f4 := hwy j
  rw [fn_at a1] at f1 ⊢
  rw [fn_at b1'] at f2 ⊢
  rw [fn_at c1] at f3 ⊢
  rw [fn_at d1] at f4 ⊢
  obtain ⟨P, hP⟩ : ∃ P, x1 * y2 = P := ⟨_, rfl⟩
  obtain ⟨Q, hQ⟩ : ∃ Q, x2 * y1 = Q := ⟨_, rfl⟩
  have q1 : IntKind.i64.wrap (x1 * y2) = P := by rw [← hP]; exact mul_wrap (a := x1) (d := y2) (by omega) (by omega)
  have q2 : IntKind.i64.wrap (x2 * y1) = Q := by rw [← hQ]; exact mul_wrap (a := x2) (d := y1) (by omega) (by omega)
  have i1 : (i : Int) < (n : Int) := by omega
  have j1 : (j : Int) < (n : Int) := by omega
  rw [hP, hQ]
  have HC := Lib.hid (fun W => compare_any P Q W)
  generalize cmpI P Q = R at *
  clear hx hy hnx hny hwx hwy a1 b1' c1 d1 f1 f2 f3 f4 hP hQ hi hj
  go_enter Try.func21, Try.ntmps21
  go_upto_region 1 with fail
  go_quiet (first | (go_at_call 22; with_reducible exact quiet_eq (HC.out _)))
  go_wp2_with fail
  go_ret
  exact ⟨rfl, _, rfl⟩

theorem cell_of_block {w w' : World} {b : Nat} (h : w'.heap[b]? = w.heap[b]?) (o : Nat) : w'.cell? ⟨b, o, none⟩ = w.cell? ⟨b, o, none⟩ := by
  simp only [World.cell?, h]
theorem IntsIn.chg {S : Nat → Prop} {w w' : World} {A : Option Addr} {xs : List Int} (h : IntsIn w A xs) (hc : Chg S w w') (hS : 0 < xs.length → ∀ g, Ab A g → ¬ S g) : IntsIn w' A xs := by
  refine ⟨fun h0 => ?_, h.len⟩
  obtain ⟨b, off, e, hl, hat⟩ := h.at_ h0
  exact ⟨b, off, e, Nat.lt_of_lt_of_le hl hc.size, fun j x hx => (cell_of_block (hc.block b hl (hS h0 b ⟨_, e, rfl⟩)) _).trans (hat j x hx)⟩
/-- What lies ready for a sort: the two slices, each also in a block, and the places in block g. -/
structure ToSort (w : World) (A B : Option Addr) (xs ys : List Int) (n cx cy g b0 b1 : Nat) : Prop where
  ix : IntsIn w A xs
  iy : IntsIn w B ys
  nx : xs.length = n
  ny : ys.length = n
  c0 : w.cell? ⟨b0, 0, none⟩ = some (.slice A n cx)
  c1 : w.cell? ⟨b1, 0, none⟩ = some (.slice B n cy)
  l0 : b0 < w.heap.size
  l1 : b1 < w.heap.size
  row : w.rowIs g 3 n (fun j => .int .i64 (j : Int))
  far : ∀ k, (0 < n ∧ (Ab A k ∨ Ab B k)) ∨ k = b0 ∨ k = b1 → k ≠ g
theorem ToSort.closure {w W : World} {A B : Option Addr} {xs ys : List Int} {n cx cy g b0 b1 : Nat} (h : ToSort w A B xs ys n cx cy g b0 b1) (hc : Chg (fun k : Nat => k = g) w W) (hwx : ∀ k, 0 ≤ fn xs k ∧ fn xs k ≤ 1048576) (hwy : ∀ k, 0 ≤ fn ys k ∧ fn ys k ≤ 1000) {i j : Nat} (hi : i < n) (hj : j < n) :
    Calls Try.prog 21 #[.int .i64 (i : Int), .int .i64 (j : Int), .pointer (some ⟨b0, 0, none⟩), .pointer (some ⟨b1, 0, none⟩)] W fun e w' => e = .returned (.int .i64 (cmpI (fn xs i * fn ys j) (fn xs j * fn ys i))) ∧ ∃ q, w' = W.drewN q :=
  closure_any (h.ix.chg hc fun h0 k hk => h.far k (.inl ⟨by rw [← h.nx]; exact h0, .inl hk⟩)) (h.iy.chg hc fun h0 k hk => h.far k (.inl ⟨by rw [← h.ny]; exact h0, .inr hk⟩)) h.nx h.ny
    ((cell_of_block (hc.block b0 h.l0 (h.far _ (.inr (.inl rfl)))) 0).trans h.c0) ((cell_of_block (hc.block b1 h.l1 (h.far _ (.inr (.inr rfl)))) 0).trans h.c1) hwx hwy hi hj

/-- A sort under way: the row holds a. -/
structure Under (w wr : World) (g n : Nat) (a : Nat → Nat) : Prop where
  chg : Chg (fun k : Nat => k = g) w wr
  row : wr.rowIs g 3 n (fun j => .int .i64 (a j : Int))
namespace Under
variable {w wr : World} {g n : Nat} {a : Nat → Nat}
theorem drewN (h : Under w wr g n a) (q : Nat) : Under w (wr.drewN q) g n a := ⟨h.chg.drewN q, h.row.of_block rfl⟩
theorem swap (h : Under w wr g n a) (j0 : Nat) : Under w (((wr.setCell ⟨g, j0 + 1, none⟩ (.int .i64 (a j0 : Int))).setCell ⟨g, j0, none⟩ (.int .i64 (a (j0 + 1) : Int))).drew) g n (fun p => if p = j0 then a (j0 + 1) else if p = j0 + 1 then a j0 else a p) := by
  have c1 := (h.chg.set (p := ⟨g, j0 + 1, none⟩) (Or.inl rfl) (.int .i64 (a j0 : Int))).set (p := ⟨g, j0, none⟩) (Or.inl rfl) (.int .i64 (a (j0 + 1) : Int))
  have r1 := (h.row.set (j0 + 1) (.int .i64 (a j0 : Int))).set j0 (.int .i64 (a (j0 + 1) : Int))
  refine ⟨c1.drew, (r1.congr fun p _ => ?_ : World.rowIs _ g 3 n (fun j => .int .i64 ((if j = j0 then a (j0 + 1) else if j = j0 + 1 then a j0 else a j : Nat) : Int))).of_block rfl⟩
  by_cases e1 : p = j0
  · rw [if_pos e1, if_pos e1]
  · rw [if_neg e1, if_neg e1]
    by_cases e2 : p = j0 + 1
    · rw [if_pos e2, if_pos e2]
    · rw [if_neg e2, if_neg e2]
end Under
/-- What a sort leaves. -/
def Sorted (w : World) (xs ys : List Int) (n g : Nat) (e : Ending) (w' : World) : Prop := e = .returned (.tuple #[]) ∧ ∃ a, Srt xs ys n a ∧ Under w w' g n a

set_option maxRecDepth 100000 in
set_option maxHeartbeats 8000000 in
theorem insertion_any {w : World} {A B : Option Addr} {xs ys : List Int} {n cx cy g b0 b1 : Nat} (h : ToSort w A B xs ys n cx cy g b0 b1) (hR : Right xs ys) (hn : n ≤ 16) (cap : Nat) :
    Calls Try.prog 50 #[.slice (some ⟨g, 0, none⟩) n cap, .int .i64 0, .int .i64 (n : Int), .func (.func 21) #[] #[.pointer (some ⟨b0, 0, none⟩), .pointer (some ⟨b1, 0, none⟩)]] w (Sorted w xs ys n g) := by
  have hv : ∀ k, k < n → 1 ≤ fn ys k := fun k hk => (hR.weight (by rw [h.nx]; exact hk)).1
  have HC := Lib.hid (fun W (hW : Chg (fun k : Nat => k = g) w W) i j (hi : i < n) (hj : j < n) => h.closure hW hR.want0 hR.weight0 hi hj)
  have HV := Lib.hid hv
  obtain ⟨N, hN⟩ : ∃ N, max n 1 = N := ⟨_, rfl⟩
  have HZ : Hid (∀ W a i, Srt xs ys i a → i = N → Under w W g n a → Sorted w xs ys n g (.returned (.tuple #[])) W) := Lib.hid (fun W a i hs hi hu => by
    refine ⟨rfl, ?_⟩
    by_cases c : n = 0
    · exact ⟨fun p => p, by rw [c]; exact Srt.start xs ys, hu.chg, hu.row.congr fun j hj => by omega⟩
    · exact ⟨a, by rwa [show n = i by omega], hu⟩)
  have HS : Hid (Under w w g n (fun p => p)) := Lib.hid ⟨Chg.refl _ _, h.row⟩
  generalize Sorted w xs ys n g = DD at *
  have hN1 : 1 ≤ N ∧ n ≤ N ∧ (N ≤ n ∨ N = 1) ∧ N ≤ 16 := by omega
  clear h hR hv hN
  go_enter Try.func50, Try.ntmps50
  go_wp2_with fail
  go_loopg [8, 9] (N - 1) (fun k c d wr => ∃ (i : Nat) (a : Nat → Nat), c = .int .i64 (i : Int) ∧ i + k = N ∧ 1 ≤ i ∧ Hid (Srt xs ys i a ∧ Under w wr g n a))
  case atStart => exact ⟨1, fun p => p, rfl, by omega, Nat.le_refl _, Lib.hid ⟨Srt.one xs ys, HS.out⟩⟩
  case round =>
    clear HS
    obtain ⟨i, a, rfl, hik, hi1, HI⟩ := hrel
    cases gk with
    | zero =>
      have hc : ¬ (i : Int) < (n : Int) := by omega
      have HE := Lib.hid (HZ.out _ a i HI.out.1 (by omega) HI.out.2)
      clear HI HZ HC HV
      go_wp2_with fail
      go_end0
      exact HE.out
    | succ k =>
      have hi : i < n := by omega
      have hic : (i : Int) < (n : Int) := by omega
      have HIK := Lib.hid hik
      go_wp2_with fail
      go_loopg [9] i (fun z d wi => ∃ (j : Nat) (b : Nat → Nat), j = z ∧ d = .int .i64 (j : Int) ∧ j ≤ i ∧ Hid (Way xs ys i j b ∧ Under w wi g n b))
      case atStart => exact ⟨i, a, rfl, rfl, Nat.le_refl _, Lib.hid ⟨HI.out.1.way, HI.out.2⟩⟩
      case round =>
        clear HI
        obtain ⟨j, b, rfl, rfl, hji, HI⟩ := hrel
        cases j with
        | zero =>
          have HT := Lib.hid (And.intro (HI.out.1.stop (fun k hk => HV.out k (by omega)) (fun h => by omega)) HI.out.2)
          clear HI HC HZ
          go_upto_region 4 with fail
          go_quiet (fail)
          go_wp2_with fail
          go_roundg k
          case measure => omega
          case rel => exact ⟨i + 1, b, by go_num, by have := HIK.out; omega, by omega, Lib.hid ⟨HT.out.1, HT.out.2.drewN _⟩⟩
        | succ j =>
          have hbj := HI.out.1.low j (by omega) (by omega)
          have hbi := HI.out.1.at_
          have HQ : Hid (∀ q, Calls Try.prog 21 #[.int .i64 (b (j + 1) : Int), .int .i64 (b j : Int), .pointer (some ⟨b0, 0, none⟩), .pointer (some ⟨b1, 0, none⟩)] (wr.drewN q) fun e w'' => e = .returned (.int .i64 (cmpI (fn xs i * fn ys (b j)) (fn xs (b j) * fn ys i))) ∧ ∃ m, w'' = wr.drewN m) := Lib.hid (fun q => by
            have := HC.out _ (HI.out.2.chg.drewN q) i (b j) hi (by omega)
            rw [hbi]
            refine this.mono ?_
            rintro e w' ⟨he, t, rfl⟩
            exact ⟨he, q + t, by rw [World.drewN_drewN]⟩)
          have HT : Hid (¬ cmpI (fn xs i * fn ys (b j)) (fn xs (b j) * fn ys i) < 0 → Srt xs ys (i + 1) b) := Lib.hid (fun hc => HI.out.1.stop (fun k hk => HV.out k (by omega)) (fun _ => by
            show fn xs (b j) * fn ys i ≤ fn xs i * fn ys (b j)
            unfold cmpI at hc
            split at hc
            · omega
            · omega))
          have HW : Hid (cmpI (fn xs i * fn ys (b j)) (fn xs (b j) * fn ys i) < 0 → Way xs ys i j (fun p => if p = j then b (j + 1) else if p = j + 1 then b j else b p)) := Lib.hid (fun hc => HI.out.1.swap (by
            unfold cmpI at hc
            split at hc
            · assumption
            · split at hc <;> omega))
          have HU := Lib.hid (fun q => ((HI.out.2.drewN q).swap j))
          have HU0 := Lib.hid HI.out.2
          obtain ⟨p, hp⟩ : ∃ p, j + 1 = p := ⟨_, rfl⟩
          have A1 := HI.out.2.row.cell (i := j) (by omega)
          have A2 := HI.out.2.row.frozen j
          have B1 := HI.out.2.row.cell (i := j + 1) (by omega)
          have B2 := HI.out.2.row.frozen (j + 1)
          rw [hp] at HQ HW HU B1 B2 ⊢
          have p0 : 0 < p := by omega
          have p00 : decide (0 < p) = true := decide_eq_true p0
          have p1 : (p : Int) < (n : Int) := by omega
          have p2 : IntKind.i64.wrap ((p : Int) - 1) = (j : Int) := by rw [wrap_in (by omega) (by omega)]; omega
          have p3 : (j : Int) < (n : Int) := by omega
          have p4 : (0 : Int) ≤ (j : Int) := by omega
          have p5 : j < p := by omega
          have p6 : ¬ j = p := by omega
          have p7 : ¬ p = j := by omega
          have HP := Lib.hid hp
          have HJI := Lib.hid hji
          clear HI HC hbj hbi hp hji hik
          generalize cmpI (fn xs i * fn ys (b j)) (fn xs (b j) * fn ys i) = R at *
          generalize b p = X at *
          generalize b j = Y at *
          by_cases hc : R < 0
          · have HN := Lib.hid (fun q => And.intro (HW.out hc) (HU.out q))
            clear HT HW HU HU0
            have hd : decide (R < 0) = true := decide_eq_true hc
            clear hc
            go_upto_region 4 with fail
            go_quiet (first | (go_at_call 21; with_reducible exact HQ.out _))
            clear HQ hd
            have HM := Lib.hid (HN.out nq)
            have A1 : (wr.drewN nq).cell? ⟨g, j, none⟩ = some (.int .i64 (Y : Int)) := A1
            have A2 : (wr.drewN nq).frozen? ⟨g, j, none⟩ = false := A2
            have B1 : (wr.drewN nq).cell? ⟨g, p, none⟩ = some (.int .i64 (X : Int)) := B1
            have B2 : (wr.drewN nq).frozen? ⟨g, p, none⟩ = false := B2
            clear HN
            generalize wr.drewN nq = wj at *
            go_upto_region 6 with fail
            refine wp_region_held_drew (S := (fun _ => True)) (by kernel_rfl) trivial (fun hHeld => ?_)
            refine wpAnyH_take (i := 0) (v := ?_) (by simp only [List.getElem?_toArray, List.getElem?_cons_zero] <;> rfl) (by kernel_rfl) (by kernel_rfl) (by kernel_rfl) (by exact fun _ _ _ h => h) (Or.inl ⟨by rfl, ?_⟩) hHeld ?_
            rotate_left
            · intro w hSw; (try dsimp only at hSw); go_simp; (try with_reducible rfl)
            (try simp only [Act.put, List.setIfInBounds_toArray, List.set_cons_zero, List.set_cons_succ])
            refine wpAnyH_take (i := 1) (v := ?_) (by simp only [List.getElem?_toArray, List.getElem?_cons_succ, List.getElem?_cons_zero] <;> rfl) (by kernel_rfl) (by kernel_rfl) (by kernel_rfl) (by exact fun _ _ _ h => h) (Or.inl ⟨by rfl, ?_⟩) hHeld ?_
            rotate_left
            · intro w hSw; (try dsimp only at hSw); go_simp; (try with_reducible rfl)
            (try simp only [Act.put, List.setIfInBounds_toArray, List.set_cons_zero, List.set_cons_succ])
            refine wpAnyH_take (i := 2) (v := ?_) (by simp only [List.getElem?_toArray, List.getElem?_cons_succ, List.getElem?_cons_zero] <;> rfl) (by kernel_rfl) (by kernel_rfl) (by kernel_rfl) (by exact fun _ _ _ h => h) (Or.inl ⟨by rfl, ?_⟩) hHeld ?_
            rotate_left
            · intro w hSw; (try dsimp only at hSw); go_simp; (try with_reducible rfl)
            (try simp only [Act.put, List.setIfInBounds_toArray, List.set_cons_zero, List.set_cons_succ])
            refine wpAnyH_take (i := 3) (v := ?_) (by simp only [List.getElem?_toArray, List.getElem?_cons_succ, List.getElem?_cons_zero] <;> rfl) (by kernel_rfl) (by kernel_rfl) (by kernel_rfl) (by exact fun _ _ _ h => h) (Or.inl ⟨by rfl, ?_⟩) hHeld ?_
            rotate_left
            · intro w hSw; (try dsimp only at hSw); go_simp; (try with_reducible rfl)
            (try simp only [Act.put, List.setIfInBounds_toArray, List.set_cons_zero, List.set_cons_succ])
            refine wpAnyH_take (i := 4) (v := ?_) (by simp only [List.getElem?_toArray, List.getElem?_cons_succ, List.getElem?_cons_zero] <;> rfl) (by kernel_rfl) (by kernel_rfl) (by kernel_rfl) (by exact fun _ _ _ h => h) (Or.inl ⟨by rfl, ?_⟩) hHeld ?_
            rotate_left
            · intro w hSw; (try dsimp only at hSw); go_simp; (try with_reducible rfl)
            (try simp only [Act.put, List.setIfInBounds_toArray, List.set_cons_zero, List.set_cons_succ])
            refine wpAnyH_take (i := 5) (v := ?_) (by simp only [List.getElem?_toArray, List.getElem?_cons_succ, List.getElem?_cons_zero] <;> rfl) (by kernel_rfl) (by kernel_rfl) (by kernel_rfl) (by exact fun _ _ _ h => h) (Or.inl ⟨by rfl, ?_⟩) hHeld ?_
            rotate_left
            · intro w hSw; (try dsimp only at hSw); go_simp; (try with_reducible rfl)
            (try simp only [Act.put, List.setIfInBounds_toArray, List.set_cons_zero, List.set_cons_succ])
            refine wpAnyH_take (i := 6) (v := ?_) (by simp only [List.getElem?_toArray, List.getElem?_cons_succ, List.getElem?_cons_zero] <;> rfl) (by kernel_rfl) (by kernel_rfl) (by kernel_rfl) (by exact fun _ _ _ h => h) (Or.inl ⟨by rfl, ?_⟩) hHeld ?_
            rotate_left
            · intro w hSw; (try dsimp only at hSw); go_simp; (try with_reducible rfl)
            (try simp only [Act.put, List.setIfInBounds_toArray, List.set_cons_zero, List.set_cons_succ])
            refine wpAnyH_take (i := 7) (v := ?_) (by simp only [List.getElem?_toArray, List.getElem?_cons_succ, List.getElem?_cons_zero] <;> rfl) (by kernel_rfl) (by kernel_rfl) (by kernel_rfl) (by exact fun _ _ _ h => h) (Or.inl ⟨by rfl, ?_⟩) hHeld ?_
            rotate_left
            · intro w hSw; (try dsimp only at hSw); go_simp; (try with_reducible rfl)
            (try simp only [Act.put, List.setIfInBounds_toArray, List.set_cons_zero, List.set_cons_succ])
            refine wpAnyH_take (i := 8) (v := ?_) (by simp only [List.getElem?_toArray, List.getElem?_cons_succ, List.getElem?_cons_zero] <;> rfl) (by kernel_rfl) (by kernel_rfl) (by kernel_rfl) (by exact fun _ _ _ h => h) (Or.inl ⟨by rfl, ?_⟩) hHeld ?_
            rotate_left
            · intro w hSw; (try dsimp only at hSw); go_simp; (try with_reducible rfl)
            (try simp only [Act.put, List.setIfInBounds_toArray, List.set_cons_zero, List.set_cons_succ])
            refine wpAnyH_take (i := 10) (v := ?_) (by simp only [List.getElem?_toArray, List.getElem?_cons_succ, List.getElem?_cons_zero] <;> rfl) (by kernel_rfl) (by kernel_rfl) (by kernel_rfl) (by exact fun _ _ _ h => h) (Or.inl ⟨by rfl, ?_⟩) hHeld ?_
            rotate_left
            · intro w hSw; (try dsimp only at hSw); go_simp; (try with_reducible rfl)
            (try simp only [Act.put, List.setIfInBounds_toArray, List.set_cons_zero, List.set_cons_succ])
            refine wpAnyH_take (i := 11) (v := ?_) (by simp only [List.getElem?_toArray, List.getElem?_cons_succ, List.getElem?_cons_zero] <;> rfl) (by kernel_rfl) (by kernel_rfl) (by kernel_rfl) (by exact fun _ _ _ h => h) (Or.inl ⟨by rfl, ?_⟩) hHeld ?_
            rotate_left
            · intro w hSw; (try dsimp only at hSw); go_simp; (try with_reducible rfl)
            (try simp only [Act.put, List.setIfInBounds_toArray, List.set_cons_zero, List.set_cons_succ])
            refine wpAnyH_take (i := 12) (v := ?_) (by simp only [List.getElem?_toArray, List.getElem?_cons_succ, List.getElem?_cons_zero] <;> rfl) (by kernel_rfl) (by kernel_rfl) (by kernel_rfl) (by exact fun _ _ _ h => h) (Or.inl ⟨by rfl, ?_⟩) hHeld ?_
            rotate_left
            · intro w hSw; (try dsimp only at hSw); go_simp; (try with_reducible rfl)
            (try simp only [Act.put, List.setIfInBounds_toArray, List.set_cons_zero, List.set_cons_succ])
            refine wpAnyH_ready (rs := [9, 13]) (by kernel_rfl) (by simp) ?_
            refine AllReadyH.cons (by simp only [List.getElem?_toArray, List.getElem?_cons_succ, List.getElem?_cons_zero] <;> rfl) (fun K hK => ?_) (AllReadyH.cons (by simp only [List.getElem?_toArray, List.getElem?_cons_succ, List.getElem?_cons_zero] <;> rfl) (fun K hK => ?_) AllReadyH.nil)
            · go_simp
              refine hK.out _ _ ?_ (fun hHeld => ?_)
              · trivial
              clear hK K
              (try simp only [Act.put, List.setIfInBounds_toArray, List.set_cons_zero, List.set_cons_succ])
              refine wpAnyH_ready (rs := [13]) (by kernel_rfl) (by simp) ?_
              refine AllReadyH.cons (by simp only [List.getElem?_toArray, List.getElem?_cons_succ, List.getElem?_cons_zero] <;> rfl) (fun K hK => ?_) AllReadyH.nil
              go_simp
              refine hK.out _ _ ?_ (fun hHeld => ?_)
              · trivial
              clear hK K
              (try simp only [Act.put, List.setIfInBounds_toArray, List.set_cons_zero, List.set_cons_succ])
              refine wpAnyH_take (i := 14) (v := ?_) (by simp only [List.getElem?_toArray, List.getElem?_cons_succ, List.getElem?_cons_zero] <;> rfl) (by kernel_rfl) (by kernel_rfl) (by kernel_rfl) (by exact fun _ _ _ h => h) (Or.inl ⟨by rfl, ?_⟩) hHeld ?_
              rotate_left
              · intro w hSw; (try dsimp only at hSw); go_simp; (try with_reducible rfl)
              (try simp only [Act.put, List.setIfInBounds_toArray, List.set_cons_zero, List.set_cons_succ])
              refine wpAnyH_ready (rs := [15]) (by kernel_rfl) (by simp) ?_
              refine AllReadyH.cons (by simp only [List.getElem?_toArray, List.getElem?_cons_succ, List.getElem?_cons_zero] <;> rfl) (fun K hK => ?_) AllReadyH.nil
              go_simp
              refine hK.out _ _ ?_ (fun hHeld => ?_)
              · trivial
              clear hK K
              (try simp only [Act.put, List.setIfInBounds_toArray, List.set_cons_zero, List.set_cons_succ])
              refine wpAnyH_take (i := 16) (v := ?_) (by simp only [List.getElem?_toArray, List.getElem?_cons_succ, List.getElem?_cons_zero] <;> rfl) (by kernel_rfl) (by kernel_rfl) (by kernel_rfl) (by exact fun _ _ _ h => h) (Or.inl ⟨by rfl, ?_⟩) hHeld ?_
              rotate_left
              · intro w hSw; (try dsimp only at hSw); go_simp; (try with_reducible rfl)
              (try simp only [Act.put, List.setIfInBounds_toArray, List.set_cons_zero, List.set_cons_succ])
              refine wpAnyH_ready (rs := [17]) (by kernel_rfl) (by simp) ?_
              refine AllReadyH.cons (by simp only [List.getElem?_toArray, List.getElem?_cons_succ, List.getElem?_cons_zero] <;> rfl) (fun K hK => ?_) AllReadyH.nil
              go_simp
              refine hK.out _ _ ?_ (fun hHeld => ?_)
              · trivial
              clear hK K
              (try simp only [Act.put, List.setIfInBounds_toArray, List.set_cons_zero, List.set_cons_succ])
              refine wpAnyH_done (by kernel_rfl) ?_ _
              clear A1 A2 B1 B2
              go_wp2_with fail
              go_roundg j
              case measure => omega
              case rel => exact ⟨j, _, rfl, by go_num, by have := HJI.out; omega, HM⟩
            · go_simp
              refine hK.out _ _ ?_ (fun hHeld => ?_)
              · trivial
              clear hK K
              (try simp only [Act.put, List.setIfInBounds_toArray, List.set_cons_zero, List.set_cons_succ])
              refine wpAnyH_ready (rs := [9]) (by kernel_rfl) (by simp) ?_
              refine AllReadyH.cons (by simp only [List.getElem?_toArray, List.getElem?_cons_succ, List.getElem?_cons_zero] <;> rfl) (fun K hK => ?_) AllReadyH.nil
              go_simp
              refine hK.out _ _ ?_ (fun hHeld => ?_)
              · trivial
              clear hK K
              (try simp only [Act.put, List.setIfInBounds_toArray, List.set_cons_zero, List.set_cons_succ])
              refine wpAnyH_take (i := 14) (v := ?_) (by simp only [List.getElem?_toArray, List.getElem?_cons_succ, List.getElem?_cons_zero] <;> rfl) (by kernel_rfl) (by kernel_rfl) (by kernel_rfl) (by exact fun _ _ _ h => h) (Or.inl ⟨by rfl, ?_⟩) hHeld ?_
              rotate_left
              · intro w hSw; (try dsimp only at hSw); go_simp; (try with_reducible rfl)
              (try simp only [Act.put, List.setIfInBounds_toArray, List.set_cons_zero, List.set_cons_succ])
              refine wpAnyH_ready (rs := [15]) (by kernel_rfl) (by simp) ?_
              refine AllReadyH.cons (by simp only [List.getElem?_toArray, List.getElem?_cons_succ, List.getElem?_cons_zero] <;> rfl) (fun K hK => ?_) AllReadyH.nil
              go_simp
              refine hK.out _ _ ?_ (fun hHeld => ?_)
              · trivial
              clear hK K
              (try simp only [Act.put, List.setIfInBounds_toArray, List.set_cons_zero, List.set_cons_succ])
              refine wpAnyH_take (i := 16) (v := ?_) (by simp only [List.getElem?_toArray, List.getElem?_cons_succ, List.getElem?_cons_zero] <;> rfl) (by kernel_rfl) (by kernel_rfl) (by kernel_rfl) (by exact fun _ _ _ h => h) (Or.inl ⟨by rfl, ?_⟩) hHeld ?_
              rotate_left
              · intro w hSw; (try dsimp only at hSw); go_simp; (try with_reducible rfl)
              (try simp only [Act.put, List.setIfInBounds_toArray, List.set_cons_zero, List.set_cons_succ])
              refine wpAnyH_ready (rs := [17]) (by kernel_rfl) (by simp) ?_
              refine AllReadyH.cons (by simp only [List.getElem?_toArray, List.getElem?_cons_succ, List.getElem?_cons_zero] <;> rfl) (fun K hK => ?_) AllReadyH.nil
              go_simp
              refine hK.out _ _ ?_ (fun hHeld => ?_)
              · trivial
              clear hK K
              (try simp only [Act.put, List.setIfInBounds_toArray, List.set_cons_zero, List.set_cons_succ])
              refine wpAnyH_done (by kernel_rfl) ?_ _
              clear A1 A2 B1 B2
              go_wp2_with fail
              go_roundg j
              case measure => omega
              case rel => exact ⟨j, _, rfl, by go_num, by have := HJI.out; omega, HM⟩
          · have HN := Lib.hid (And.intro (HT.out hc) HU0.out)
            clear HT HW HU HU0
            have hd : decide (R < 0) = false := decide_eq_false hc
            clear hc
            go_upto_region 4 with fail
            go_quiet (first | (go_at_call 21; with_reducible exact HQ.out _))
            clear HQ hd
            go_wp2_with fail
            go_roundg k
            case measure => omega
            case rel => exact ⟨i + 1, b, by go_num, by have := HIK.out; omega, by omega, Lib.hid ⟨HN.out.1, HN.out.2.drewN _⟩⟩
end Go.Proofs.Ytemoleopabddnaa
