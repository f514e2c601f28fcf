/- GpsEnds: what its walk goes over. -/
import Derived.Test.YtemoleopabddnaaGp5
import Derived.Test.YtemoleopabddnaaGp8
import Derived.Test.YtemoleopabddnaaGpE1
namespace Go.Proofs.Ytemoleopabddnaa
open Go.RowKit Go.Maps

theorem Srt.met_mem {xs ys : List Int} {n : Nat} {o : Nat → Nat} (h : Srt xs ys n o) (hv : ∀ j, j < n → 1 ≤ fn ys j) {p j : Nat} (hp : p < n) (hj : j < n) : met o (p + 1) j = true ↔ (j = o p ∨ Sooner xs ys j (o p)) := by
  rw [met_iff]
  constructor
  · rintro ⟨q, hq, rfl⟩
    by_cases c : q = p
    · exact .inl (by rw [c])
    · exact .inr (h.inc q p (by omega) hp)
  · intro hc
    obtain ⟨q, hq, rfl⟩ := h.all j hj
    by_cases c : q < p + 1
    · exact ⟨q, c, rfl⟩
    · exfalso
      have h1 := h.inc p q (by omega) hq
      rcases hc with hc | hc
      · exact h.inj (show p < q by omega) hq hc.symm
      · exact (h1.trans (hv _ (h.low p hp)) (hv _ (h.low q hq)) (hv _ (h.low p hp)) hc).irrefl
/-- What Whole answers, along the order that Order answers. -/
theorem whole_order {xs ys : List Int} {n : Nat} {o1 o2 : Nat → Nat} {h : Nat → Int} (h1 : Srt xs ys n o1) (h2 : Srt xs ys n o2) (hv : ∀ j, j < n → 1 ≤ fn ys j) (hh : ∀ p, p < n → h (o2 p) = su (fun q => fn xs (o2 q)) (p + 1)) {p : Nat} (hp : p < n) : h (o1 p) = su (fun q => fn xs (o1 q)) (p + 1) := by
  obtain ⟨q, hq, e⟩ := h2.all (o1 p) (h1.low p hp)
  rw [← e, hh q hq, h2.su_met _ _ (by omega), h1.su_met _ _ (by omega)]
  refine su_congr fun j hj => ?_
  have k1 := h1.met_mem hv hp hj
  have k2 := h2.met_mem hv hq hj
  rw [e] at k2
  have : met o2 (q + 1) j = met o1 (p + 1) j := by
    rw [Bool.eq_iff_iff, k1, k2]
  rw [this]
/-- In the order, who is sooner is done no later; who is done at the same time has the smaller number. -/
theorem order_cmp {xs ys : List Int} {n : Nat} (hv : ∀ j, j < n → 1 ≤ fn ys j) {i j : Nat} (hi : i < n) (hj : j < n) (h : Sooner xs ys i j) :
    cmpI (gT (fn xs) (fn ys) n i * fn ys j) (gT (fn xs) (fn ys) n j * fn ys i) ≤ 0 ∧ (cmpI (gT (fn xs) (fn ys) n i * fn ys j) (gT (fn xs) (fn ys) n j * fn ys i) = 0 → i < j) := by
  have k := gT_order (b := fn xs) (v := fn ys) (n := n) (i := j) (j := i) hv hj hi
  unfold cmpI
  rcases h with h | ⟨h, hl⟩
  · have := k.2 (by rw [Int.mul_comm (fn ys i)]; exact h)
    rw [if_pos this]
    exact ⟨by decide, fun h => absurd h (by decide)⟩
  · have h1 := k.1 (by rw [Int.mul_comm (fn ys i)]; omega)
    refine ⟨?_, fun _ => hl⟩
    split
    · decide
    · split
      · omega
      · decide
theorem cmp_self (x : Int) : cmpI x x = 0 := by unfold cmpI; rw [if_neg (by omega), if_neg (by omega)]
theorem gT_lim {xs ys : List Int} (hR : Right xs ys) {n : Nat} (hn : n ≤ 16) (k : Nat) : 0 ≤ gT (fn xs) (fn ys) n k ∧ gT (fn xs) (fn ys) n k ≤ 16777216000 := by
  rw [← gt_su]
  exact gt_sum hR k hn
/-- Two of the reference's moments. -/
theorem ends_cmp {xs ys : List Int} (hR : Right xs ys) {n : Nat} (hn : n ≤ 16) {w : World} {g g2 i j : Nat} (h1 : RatV w g (gT (fn xs) (fn ys) n i) (fn ys i)) (h2 : RatV w g2 (gT (fn xs) (fn ys) n j) (fn ys j)) :
    Calls Try.prog 16 #[.pointer (some ⟨g, 0, none⟩), .pointer (some ⟨g2, 0, none⟩)] w fun e w' => e = .returned (.int .i64 (cmpI (gT (fn xs) (fn ys) n i * fn ys j) (gT (fn xs) (fn ys) n j * fn ys i))) ∧ Below w.heap.size w w' := by
  have a1 := gT_lim hR hn i
  have a2 := gT_lim hR hn j
  have v1 := hR.weight0 i
  have v2 := hR.weight0 j
  have q1 := mul_small (a := gT (fn xs) (fn ys) n i) (b := fn ys j) (A := 16777216000) (B := 1000) (by omega) (by omega)
  have q2 := mul_small (a := gT (fn xs) (fn ys) n j) (b := fn ys i) (A := 16777216000) (B := 1000) (by omega) (by omega)
  have q3 := mul_small (a := fn ys i) (b := fn ys j) (A := 1000) (B := 1000) (by omega) (by omega)
  exact vcmp g g2 h1 h2 (by omega) (by omega) (by omega)
/-- Who was met, in a row of its own. -/
structure HadI (w wr : World) (g n i : Nat) (o : Nat → Nat) : Prop where
  below : Below w.heap.size w wr
  far : w.heap.size ≤ g
  row : wr.rowIs g 4 n (fun j => .bool (met o i j))
namespace HadI
variable {w wr W : World} {g n i : Nat} {o : Nat → Nat}
theorem later (I : HadI w wr g n i o) (hb : Below wr.heap.size wr W) : HadI w W g n i o := ⟨I.below.trans (hb.mono I.below.size), I.far, I.row.of_block (hb.block g I.row.lt)⟩
theorem seat (I : HadI w wr g n i o) {k : Nat} (hk : k < n) (hm : met o i k = false) : wr.cell? ⟨g, k, none⟩ = some (.bool false) ∧ wr.frozen? ⟨g, k, none⟩ = false := ⟨by rw [I.row.cell hk, hm], I.row.frozen k⟩
theorem put (I : HadI w wr g n i o) : HadI w (wr.setCell ⟨g, o i, none⟩ (.bool true)) g n (i + 1) o :=
  ⟨I.below.setCell I.far _, I.far, (I.row.set (o i) _).congr fun j _ => by
    by_cases c : j = o i
    · rw [if_pos c]
      show Value.bool true = .bool (met o i j || decide (j = o i))
      rw [decide_eq_true c, Bool.or_true]
    · rw [if_neg c]
      show Value.bool (met o i j) = .bool (met o i j || decide (j = o i))
      rw [decide_eq_false c, Bool.or_false]⟩
theorem start {w w1 : World} (hb : Below w.heap.size w w1) (n : Nat) (o : Nat → Nat) : HadI w (w1.alloc (.cells (madeCells #[.bool false] n) 4)) w1.heap.size n 0 o := ⟨hb.alloc hb.size _, hb.size, World.rowIs_made w1 (.bool false) n 4⟩
end HadI
theorem Srt.fresh {xs ys : List Int} {n : Nat} {o : Nat → Nat} (h : Srt xs ys n o) {i : Nat} (hi : i < n) : met o i (o i) = false := by
  rw [Bool.eq_false_iff, Ne, met_iff]
  rintro ⟨q, hq, e⟩
  exact h.inj hq hi e
end Go.Proofs.Ytemoleopabddnaa
