/- slices.DeleteFunc: the walk. -/
import Derived.Test.YtbckppflfgdblaaHp31
namespace Go.Proofs.Ytbckppflfgdblaa
open Go.RowKit Go.Maps

def Deleted (B : Nat) (v : Value) (xs : List Int) (x : Int) (w : World) (e : Ending) (w' : World) : Prop :=
  ∃ v', e = .returned v' ∧ NumsIs 3 B w' v' (xs.filter (fun y => !(y == x))) ∧ Chg (fun k => v.ownBlock = some k) w w'

theorem deleted_none {B : Nat} {w : World} {v : Value} {xs : List Int} {x : Int} (h : NumsIs 3 B w v xs) (hx : x ∉ xs) : Deleted B v xs x w (.returned v) w := by
  refine ⟨v, rfl, ?_, Chg.refl _ _⟩
  have : xs.filter (fun y => !(y == x)) = xs := by
    rw [List.filter_eq_self]
    intro y hy
    have : y ≠ x := fun e => hx (by rw [← e]; exact hy)
    simpa using this
  rw [this]; exact h
theorem deleted_done {B : Nat} {w W : World} {g cap n i : Nat} {xs : List Int} {x : Int} (h : DI w g cap xs x n W) (hn : xs.length = n) (hc : n ≤ cap) (hi : (flt xs x n).length = i) (hB : B ≤ g) (hm : cap ≤ 9223372036854775807) :
    Deleted B (.slice (some ⟨g, 0, none⟩) n cap) xs x w (.returned (.slice (some ⟨g, 0, none⟩) i cap)) W := by
  obtain ⟨F, hF, h1, h2, h3⟩ := h
  have e : flt xs x n = xs.filter (fun y => !(y == x)) := by unfold flt; rw [List.take_of_length_le (by omega)]
  have hl := flt_le xs x n
  have := nums_of_cells hF hB hm (by omega) h1
  rw [hi, e] at this
  exact ⟨_, rfl, this, h3.mono (fun k _ e => by rw [e]; rfl)⟩

theorem di_cells {w wr : World} {g cap j i n kb : Nat} {xs : List Int} {x : Int} (h : DI w g cap xs x j wr) (_ : (flt xs x j).length = i) (hn : xs.length = n) (hj : j < n) (hij : i < j) (hc : n ≤ cap) (hk : w.cell? ⟨kb, 0, none⟩ = some (.int .i64 x)) (hkl : kb < w.heap.size) (hne : (Value.slice (some ⟨g, 0, none⟩) xs.length cap).ownBlock ≠ some kb) :
    wr.cell? ⟨g, j, none⟩ = some (.int .i64 (xs.getD j 0)) ∧ (∃ u, wr.cell? ⟨g, i, none⟩ = some u) ∧ wr.frozen? ⟨g, i, none⟩ = false ∧ wr.cell? ⟨kb, 0, none⟩ = some (.int .i64 x) := by
  obtain ⟨F, hF, h1, h2, h3⟩ := h
  refine ⟨by rw [hF.cell (by omega), h2 j (Nat.le_refl _) (by omega)], ⟨_, hF.cell (by omega)⟩, hF.frozen i, ?_⟩
  rw [World.cell?_of_block (h3.block kb hkl (fun e => hne (by rw [e]; rfl)))]
  exact hk

set_option maxRecDepth 100000 in
set_option maxHeartbeats 2000000 in
theorem deleteFunc_ints {B : Nat} {w : World} {v : Value} {xs : List Int} {kb : Nat} {x : Int} (h : NumsIs 3 B w v xs) (hc : w.cell? ⟨kb, 0, none⟩ = some (.int .i64 x)) (hk : kb < w.heap.size) (hne : v.ownBlock ≠ some kb) (hn : xs.length ≤ 5000000000000) :
    Calls Try.prog 19 #[v, .func (.func 21) #[] #[.pointer (some ⟨kb, 0, none⟩)]] w (Deleted B v xs x w) := by
  have HF := Lib.hid (indexFunc_ints h hc hn)
  have HH := Lib.hid (And.intro h (And.intro hc (And.intro hk (And.intro hne hn))))
  have h2 := h.2
  rcases h2 with ⟨rfl, h0⟩ | ⟨g, cap, cur, rfl, _⟩
  · have hz : xs.length = 0 := h0
    clear h hc hk hne hn h0
    go_enter Try.func19, Try.ntmps19
    go_wp2_with fail
    refine HF.out.mono ?_
    rintro e w1 ⟨r, rfl, rfl, hr⟩
    rcases hr with ⟨rfl, hx⟩ | ⟨i, _, hi, _⟩
    · have HX := Lib.hid hx
      clear hx hz
      go_wp2
      go_ret
      exact deleted_none HH.out.1 HX.out
    · omega
  · obtain ⟨n, hl⟩ : ∃ n, xs.length = n := ⟨_, rfl⟩
    obtain ⟨hB, hnc, hcm, F, hrow, hcell⟩ := row_of_nums h
    have HR := Lib.hid (And.intro hB (And.intro hrow (And.intro hcell hl)))
    clear h hc hk hne hB hrow hcell
    rw [hl] at hn hnc ⊢
    rw [hl] at HF
    clear hl
    go_enter Try.func19, Try.ntmps19
    go_wp2_with fail
    refine HF.out.mono ?_
    rintro e w1 ⟨r, rfl, rfl, hr⟩
    rcases hr with ⟨rfl, hx⟩ | ⟨k0, rfl, hk0, he, hf⟩
    · have HX := Lib.hid hx
      clear hx
      go_wp2
      go_ret
      have := deleted_none HH.out.1 HX.out
      rw [HR.out.2.2.2] at this
      exact this
    · have HD := Lib.hid (di_start HR.out.2.1 HR.out.2.2.1 hk0 he hf)
      rw [HR.out.2.2.2] at hk0
      clear he hf
      have hne1 : ((k0 : Int) == -1) = false := beq_eq_false_iff_ne.2 (by omega)
      go_wp2
      go_loopg [5, 6, 7] (n - (k0 + 1)) (fun k si sj _ wr => ∃ i j : Nat, si = .int .i64 (i : Int) ∧ sj = .int .i64 (j : Int) ∧ j + k = n ∧ i < j ∧ j ≤ n ∧ Hid (DI w1 g cap xs x j wr ∧ (flt xs x j).length = i))
      case atStart => exact ⟨k0, k0 + 1, rfl, by go_num, by omega, by omega, by omega, HD⟩
      case round =>
        clear HD HF
        obtain ⟨i, j, rfl, rfl, hjk, hij, hjn, HI⟩ := hrel
        cases gk with
        | zero =>
          obtain rfl : j = n := by omega
          obtain ⟨W, hcl, hW⟩ := di_clear HI.out.1 HR.out.2.2.2 hnc HI.out.2 hij
          have HW := Lib.hid (deleted_done hW HR.out.2.2.2 hnc HI.out.2 HR.out.1 hcm)
          clear hW
          have h1 : (i : Int) ≤ (j : Int) := by omega
          have h2 : (j : Int) ≤ (cap : Int) := by omega
          have h3 : (i : Int) ≤ (cap : Int) := by omega
          have h4 : ¬ cap = i := by omega
          have h5 : i ≤ j := by omega
          have h6 : i ≤ cap := by omega
          go_wp2
          go_ret
          exact HW.out
        | succ k =>
          have hj : j < n := by omega
          have i1 : (j : Int) < (n : Int) := by omega
          have i2 : (i : Int) < (n : Int) := by omega
          obtain ⟨d1, d2, d3, d4⟩ := di_cells HI.out.1 HI.out.2 HR.out.2.2.2 hj hij hnc HH.out.2.1 HH.out.2.2.1 HH.out.2.2.2.1
          obtain ⟨u, d2⟩ := d2
          by_cases he : xs.getD j 0 = x
          · have HE := Lib.hid (del_any (y := xs.getD j 0) d4)
            have hb : (xs.getD j 0 == x) = true := by simpa using he
            rw [hb] at HE
            have HN := Lib.hid (di_skip HI.out.1 (by rw [HR.out.2.2.2]; exact hj) he)
            clear he hb
            generalize xs.getD j 0 = y at d1 HE
            go_wp2_with fail
            refine HE.out.mono ?_
            rintro e w' ⟨rfl, rfl⟩
            go_wp2
            go_roundg k
            case measure => omega
            case rel => exact ⟨i, j + 1, rfl, by go_num, by omega, by omega, by omega, Lib.hid ⟨HN.out.1, HN.out.2.trans HI.out.2⟩⟩
          · have HE := Lib.hid (del_any (y := xs.getD j 0) d4)
            have hb : (xs.getD j 0 == x) = false := beq_eq_false_iff_ne.2 he
            rw [hb] at HE
            have HN := Lib.hid (di_keep HI.out.1 (by rw [HR.out.2.2.2]; exact hj) (by rw [HR.out.2.2.2]; exact hnc) he HI.out.2 hij)
            clear he hb
            generalize xs.getD j 0 = y at d1 HE HN
            go_wp2_with fail
            refine HE.out.mono ?_
            rintro e w' ⟨rfl, rfl⟩
            go_wp2
            go_roundg k
            case measure => omega
            case rel => exact ⟨i + 1, j + 1, by go_num, by go_num, by omega, by omega, by omega, HN⟩

end Go.Proofs.Ytbckppflfgdblaa
