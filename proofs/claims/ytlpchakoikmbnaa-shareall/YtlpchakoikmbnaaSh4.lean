/- Package share: slices.SortFunc under ascending's closure. -/
import Derived.Test.YtlpchakoikmbnaaSh3
namespace Go.Proofs.Ytlpchakoikmbnaa
open Go.RowKit Go.Maps

/-- In what order the demands are met. -/
def cfn (xs ys : List Int) (n : Nat) (a b : Fin n) : Int := cmpI (fn xs a.val * fn ys b.val) (fn xs b.val * fn ys a.val)
theorem lt_cfn (xs ys : List Int) (n : Nat) (a b : Fin n) : ltOf (cfn xs ys n) a b = decide (fn xs a.val * fn ys b.val < fn xs b.val * fn ys a.val) := by
  unfold ltOf cfn cmpI
  congr 1
  rw [eq_iff_iff]
  split
  · simp; omega
  · split
    · simp; omega
    · simp; omega
theorem swo_cfn {xs ys : List Int} {n : Nat} (hy : ∀ k, k < n → 1 ≤ fn ys k) : Go.Sort.SWO (ltOf (cfn xs ys n)) where
  irrefl a := by rw [lt_cfn]; simp
  trans a b c h1 h2 := by
    rw [lt_cfn] at *
    rw [decide_eq_true_iff] at *
    have pa := hy a.val a.isLt
    have pb := hy b.val b.isLt
    have pc := hy c.val c.isLt
    generalize fn xs a.val = wa at *
    generalize fn xs b.val = wb at *
    generalize fn xs c.val = wc at *
    generalize fn ys a.val = va at *
    generalize fn ys b.val = vb at *
    generalize fn ys c.val = vc at *
    have k1 := Int.mul_lt_mul_of_pos_right h1 (show 0 < vc by omega)
    have k2 := Int.mul_lt_mul_of_pos_right h2 (show 0 < va by omega)
    rw [Int.mul_right_comm wa, Int.mul_right_comm wb] at k1
    rw [Int.mul_right_comm wc] at k2
    exact Int.lt_of_mul_lt_mul_right (Int.lt_trans k1 k2) (show 0 ≤ vb by omega)
  ntrans a b c h1 h2 := by
    rw [lt_cfn] at *
    rw [decide_eq_false_iff_not] at *
    have pa := hy a.val a.isLt
    have pb := hy b.val b.isLt
    have pc := hy c.val c.isLt
    generalize fn xs a.val = wa at *
    generalize fn xs b.val = wb at *
    generalize fn xs c.val = wc at *
    generalize fn ys a.val = va at *
    generalize fn ys b.val = vb at *
    generalize fn ys c.val = vc at *
    have k1 := Int.mul_le_mul_of_nonneg_right (show wb * va ≤ wa * vb by omega) (show 0 ≤ vc by omega)
    have k2 := Int.mul_le_mul_of_nonneg_right (show wc * vb ≤ wb * vc by omega) (show 0 ≤ va by omega)
    rw [Int.mul_right_comm wb, Int.mul_right_comm wa] at k1
    rw [Int.mul_right_comm wc] at k2
    have := Int.le_of_mul_le_mul_right (Int.le_trans k2 k1) (show 0 < vb by omega)
    omega
/-- The places, from the lowest level to the highest. -/
def Asc (xs ys : List Int) (L : List Nat) : Prop := ∀ a b i j : Nat, a < b → L[a]? = some i → L[b]? = some j → fn xs i * fn ys j ≤ fn xs j * fn ys i
/-- The world behind a sort. -/
theorem sortWorld_chg {α : Type} [Inhabited α] (enc : α → Value) (w : World) (blk off m : Nat) (dk : Array α) (os : Array Obj) : Chg (fun k : Nat => k = blk) w (sortWorld enc w blk off m dk os) := by
  refine ⟨rfl, rfl, rfl, ?_, fun k hk hn => ?_⟩
  · unfold sortWorld Go.Sort.putRow Go.Sort.mapBlock
    simp [Go.Sort.ahead]
  · unfold sortWorld
    rw [Go.Sort.heap_grow_old _ _ (by unfold Go.Sort.putRow Go.Sort.mapBlock; simpa [Go.Sort.ahead] using hk)]
    unfold Go.Sort.putRow Go.Sort.mapBlock
    simp only [Array.getElem?_modify]
    rw [if_neg (by omega)]
    rfl
theorem cell_of_block {w w' : World} {b : Nat} (h : w'.heap[b]? = w.heap[b]?) (o : Nat) : w'.cell? ⟨b, o, none⟩ = w.cell? ⟨b, o, none⟩ := by
  simp only [World.cell?, h]
theorem IntsIn.chg {S : Nat → Prop} {w w' : World} {A : Option Addr} {xs : List Int} (h : IntsIn w A xs) (hc : Chg S w w') (hS : 0 < xs.length → ∀ g, Ab A g → ¬ S g) : IntsIn w' A xs := by
  refine ⟨fun h0 => ?_, h.len⟩
  obtain ⟨b, off, e, hl, hat⟩ := h.at_ h0
  exact ⟨b, off, e, Nat.lt_of_lt_of_le hl hc.size, fun j x hx => (cell_of_block (hc.block b hl (hS h0 b ⟨_, e, rfl⟩)) _).trans (hat j x hx)⟩
/-- What lies ready for a sort: the two slices, each also in a block, and the places in block g. -/
structure ToSort (w : World) (A B : Option Addr) (xs ys : List Int) (n cx cy g b0 b1 : Nat) : Prop where
  ix : IntsIn w A xs
  iy : IntsIn w B ys
  nx : xs.length = n
  ny : ys.length = n
  c0 : w.cell? ⟨b0, 0, none⟩ = some (.slice A n cx)
  c1 : w.cell? ⟨b1, 0, none⟩ = some (.slice B n cy)
  l0 : b0 < w.heap.size
  l1 : b1 < w.heap.size
  row : w.rowIs g 3 n (fun j => .int .i64 (j : Int))
  far : ∀ k, (0 < n ∧ (Ab A k ∨ Ab B k)) ∨ k = b0 ∨ k = b1 → k ≠ g
theorem ToSort.closure {w W : World} {A B : Option Addr} {xs ys : List Int} {n cx cy g b0 b1 : Nat} (h : ToSort w A B xs ys n cx cy g b0 b1) (hc : Chg (fun k : Nat => k = g) w W) (hwx : ∀ k, 0 ≤ fn xs k ∧ fn xs k ≤ 1048576) (hwy : ∀ k, 0 ≤ fn ys k ∧ fn ys k ≤ 1000) {i j : Nat} (hi : i < n) (hj : j < n) :
    Calls Try.prog 26 #[.int .i64 (i : Int), .int .i64 (j : Int), .pointer (some ⟨b0, 0, none⟩), .pointer (some ⟨b1, 0, none⟩)] W fun e w' => e = .returned (.int .i64 (cmpI (fn xs i * fn ys j) (fn xs j * fn ys i))) ∧ ∃ q, w' = W.drewN q :=
  closure_any (h.ix.chg hc fun h0 k hk => h.far k (.inl ⟨by rw [← h.nx]; exact h0, .inl hk⟩)) (h.iy.chg hc fun h0 k hk => h.far k (.inl ⟨by rw [← h.ny]; exact h0, .inr hk⟩)) h.nx h.ny
    ((cell_of_block (hc.block b0 h.l0 (h.far _ (.inr (.inl rfl)))) 0).trans h.c0) ((cell_of_block (hc.block b1 h.l1 (h.far _ (.inr (.inr rfl)))) 0).trans h.c1) hwx hwy hi hj
def encF (n : Nat) (a : Fin n) : Value := .int .i64 (a.val : Int)
/-- What a sort leaves. -/
def Sorted (w : World) (xs ys : List Int) (n g : Nat) (e : Ending) (w' : World) : Prop :=
  e = .returned (.tuple #[]) ∧ ∃ L : List Nat, L.Perm (List.range n) ∧ Asc xs ys L ∧ IntsIn w' (some ⟨g, 0, none⟩) (L.map fun k : Nat => (k : Int)) ∧ Chg (fun k : Nat => k = g) w w'
theorem fin_vals (n : Nat) : ((List.finRange n).map Fin.val) = List.range n := by
  apply List.ext_getElem
  · simp
  · intro i h1 h2
    simp
theorem sort_any {w : World} {A B : Option Addr} {xs ys : List Int} {n cx cy g b0 b1 : Nat} (h : ToSort w A B xs ys n cx cy g b0 b1) (hwx : ∀ k, 0 ≤ fn xs k ∧ fn xs k ≤ 1048576) (hwy : ∀ k, 0 ≤ fn ys k ∧ fn ys k ≤ 1000) (hw1 : ∀ k, k < n → 1 ≤ fn ys k) (hn : n ≤ 16) (cap : Nat) :
    Calls Try.prog 25 #[.slice (some ⟨g, 0, none⟩) n cap, .func (.func 26) #[] #[.pointer (some ⟨b0, 0, none⟩), .pointer (some ⟨b1, 0, none⟩)]] w (Sorted w xs ys n g) := by
  by_cases h0 : n = 0
  · subst h0
    have hS := AnyF.slices_SortFunc_none (P := Try.prog) (ρ := sortL_ren) { sortL with } (some ⟨g, 0, none⟩) cap (.func (.func 26) #[] #[.pointer (some ⟨b0, 0, none⟩), .pointer (some ⟨b1, 0, none⟩)]) w
    change Calls Try.prog 25 _ _ _ at hS
    refine hS.mono ?_
    rintro e w' ⟨rfl, rfl⟩
    exact ⟨rfl, [], List.Perm.refl _, fun a b i j _ ha _ => by simp at ha, ⟨fun h => absurd h (by simp), by decide⟩, Chg.refl _ _⟩
  · haveI : NeZero n := ⟨h0⟩
    haveI : Inhabited (Fin n) := ⟨0⟩
    obtain ⟨d, hd⟩ : ∃ d, (List.finRange n).toArray = d := ⟨_, rfl⟩
    have hds : d.size = n := by rw [← hd]; simp
    have hget : ∀ j (hj : j < n), d[j]! = ⟨j, hj⟩ := fun j hj => by
      rw [getElem!_pos d j (by omega)]
      subst hd
      simp
    have hH : Go.Sort.Holds (encF n) w g 0 d := fun j hj => by
      rw [hds] at hj
      rw [hget j hj, Nat.zero_add]
      exact ⟨h.row.cell hj, h.row.frozen j⟩
    have eg : ∀ args w, (callFunc 26 args).run Try.prog w = .ok (.enter 26 args) w := enters_of Try.func26 (by kernel_rfl) rfl
    have hcmp : CmpReads Try.prog 26 #[.pointer (some ⟨b0, 0, none⟩), .pointer (some ⟨b1, 0, none⟩)] (encF n) (cfn xs ys n) g 0 d.size w := fun m os dk _ x y =>
      h.closure (sortWorld_chg _ _ _ _ _ _ _) hwx hwy x.isLt y.isLt
    have hS := Any.slices_SortFunc sortL (encF n) (fun _ => rfl) (cfn xs ys n) (swo_cfn hw1) 26 #[.pointer (some ⟨b0, 0, none⟩), .pointer (some ⟨b1, 0, none⟩)] g 0 cap d w eg hcmp.lays hH h.row.lt (by omega)
    rw [hds] at hS
    change Calls Try.prog 25 _ _ _ at hS
    refine hS.mono ?_
    rintro e w' ⟨rfl, d', m, os, ⟨p1, p2, p3⟩, hso, rfl⟩
    have hd's : d'.size = n := p1.trans hds
    have hperm : d'.toList.Perm d.toList := by
      have e1 := Array.extract_size (xs := d')
      have e2 := Array.extract_size (xs := d)
      rw [hd's] at e1
      rw [hds] at e2
      rwa [e1, e2] at p3
    have hat : ∀ (a k : Nat), (d'.toList.map Fin.val)[a]? = some k → ∃ ha : a < n, (d'[a]!).val = k := fun a k hk => by
      rw [List.getElem?_map, Option.map_eq_some_iff] at hk
      obtain ⟨f, hf, rfl⟩ := hk
      rw [Array.getElem?_toList] at hf
      obtain ⟨ha, hf⟩ := Array.getElem?_eq_some_iff.1 hf
      refine ⟨by omega, ?_⟩
      rw [getElem!_pos d' a ha, hf]
    have hcc : SW (encF n) w g 0 d' (sortWorld (encF n) w g 0 m d' os) := ⟨m, os, rfl⟩
    refine ⟨rfl, d'.toList.map Fin.val, ?_, fun a b i j hab hi hj => ?_, ⟨fun _ => ⟨g, 0, rfl, Nat.lt_of_lt_of_le h.row.lt (sortWorld_chg _ _ _ _ _ _ _).size, fun j x hx => ?_⟩, ?_⟩, sortWorld_chg _ _ _ _ _ _ _⟩
    · have := hperm.map Fin.val
      rw [← hd] at this
      rwa [show ((List.finRange n).toArray.toList.map Fin.val) = List.range n from fin_vals n] at this
    · obtain ⟨ha, rfl⟩ := hat a i hi
      obtain ⟨hb, rfl⟩ := hat b j hj
      have := hso a b (Nat.zero_le _) hab hb
      rw [lt_cfn, decide_eq_false_iff_not] at this
      omega
    · rw [List.getElem?_map, Option.map_eq_some_iff] at hx
      obtain ⟨k, hk, rfl⟩ := hx
      obtain ⟨ha, rfl⟩ := hat j k hk
      exact hcc.c1 ⟨fun _ => rfl, hH, h.row.lt⟩ (by omega) j (by omega)
    · simp
      omega
end Go.Proofs.Ytlpchakoikmbnaa
