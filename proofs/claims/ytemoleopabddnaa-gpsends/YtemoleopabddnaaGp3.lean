/- Package gps: a row of ints that is filled; End. -/
import Derived.Test.YtemoleopabddnaaGp2
namespace Go.Proofs.Ytemoleopabddnaa
open Go.RowKit Go.Maps

/-- A row of ints of one's own. -/
structure RowI (w wr : World) (g n : Nat) (h : Nat → Int) : Prop where
  below : Below w.heap.size w wr
  far : w.heap.size ≤ g
  row : wr.rowIs g 3 n (fun j => .int .i64 (h j))
namespace RowI
variable {w wr W : World} {g n : Nat} {h : Nat → Int}
theorem seat (I : RowI w wr g n h) {i : Nat} (hi : i < n) : wr.cell? ⟨g, i, none⟩ = some (.int .i64 (h i)) ∧ wr.frozen? ⟨g, i, none⟩ = false := ⟨I.row.cell hi, I.row.frozen i⟩
theorem put (I : RowI w wr g n h) (k : Nat) (x : Int) : RowI w (wr.setCell ⟨g, k, none⟩ (.int .i64 x)) g n (fun j => if j = k then x else h j) :=
  ⟨I.below.setCell I.far _, I.far, (I.row.set k _).congr fun j _ => by
    by_cases c : j = k
    · rw [if_pos c, if_pos c]
    · rw [if_neg c, if_neg c]⟩
theorem later (I : RowI w wr g n h) (hb : Below wr.heap.size wr W) : RowI w W g n h := ⟨I.below.trans (hb.mono I.below.size), I.far, I.row.of_block (hb.block g I.row.lt)⟩
theorem drewN (I : RowI w wr g n h) (q : Nat) : RowI w (wr.drewN q) g n h := I.later (below_drewN (Below.refl _ _) q)
theorem congr (I : RowI w wr g n h) {h' : Nat → Int} (e : ∀ j, j < n → h j = h' j) : RowI w wr g n h' := ⟨I.below, I.far, I.row.congr fun j hj => by rw [e j hj]⟩
theorem ints (I : RowI w wr g n h) (hn : n ≤ 16) : IntsIn wr (some ⟨g, 0, none⟩) ((List.range n).map h) := by
  refine ⟨fun _ => ⟨g, 0, rfl, I.row.lt, fun j x hx => ?_⟩, by simp; omega⟩
  rw [List.getElem?_map, Option.map_eq_some_iff] at hx
  obtain ⟨k, hk, rfl⟩ := hx
  obtain ⟨hj, rfl⟩ := List.getElem?_eq_some_iff.1 hk
  simp at hj
  rw [Nat.zero_add, List.getElem_range]
  exact I.row.cell hj
theorem start {w w1 : World} (hb : Below w.heap.size w w1) (n : Nat) : RowI w (w1.alloc (.cells (madeCells #[.int .i64 0] n) 3)) w1.heap.size n (fun _ => 0) :=
  ⟨hb.alloc hb.size _, hb.size, World.rowIs_made w1 (.int .i64 0) n 3⟩
end RowI
/-- A call made a list, or none. -/
def Got (w : World) (L : List Int) (err : Int) (e : Ending) (w' : World) : Prop := ∃ A cap, e = .returned (.tuple #[.slice A L.length cap, .int .i64 err]) ∧ IntsIn w' A L ∧ Below w.heap.size w w'
def ends (xs ys : List Int) : List Int := (List.range xs.length).map (gT (fn xs) (fn ys) xs.length)
theorem ends_length (xs ys : List Int) : (ends xs ys).length = xs.length := by simp [ends]
theorem got_none {w w' : World} {err : Int} (hb : Below w.heap.size w w') : Got w [] err (.returned (.tuple #[.slice none 0 0, .int .i64 err])) w' := ⟨none, 0, rfl, ⟨fun h => absurd h (by simp), by decide⟩, hb⟩

set_option maxRecDepth 100000 in
set_option maxHeartbeats 4000000 in
theorem end_ok {w : World} {A B : Option Addr} {xs ys : List Int} (hx : IntsIn w A xs) (hy : IntsIn w B ys) (hR : Right xs ys) (h0 : wrongL xs ys = 0) (cx cy : Nat) :
    Calls Try.prog 9 #[.slice A xs.length cx, .slice B ys.length cy] w (Got w (ends xs ys) 0) := by
  have HW := Lib.hid (wrong_any hx hy cx cy)
  rw [h0] at HW
  have HS := Lib.hid (fun W (hW : Below w.heap.size w W) (i : Nat) (hi : i < xs.length) => sent_any (hx.below hW) (hy.below hW) hR cx cy hi)
  have h16 := hR.few
  obtain ⟨T, hT⟩ : ∃ T, gT (fn xs) (fn ys) xs.length = T := ⟨_, rfl⟩
  have HZ : Hid (∀ W g, RowI w W g xs.length T → Got w (ends xs ys) 0 (.returned (.tuple #[.slice (some ⟨g, 0, none⟩) xs.length xs.length, .int .i64 0])) W) := Lib.hid (fun W g I => ⟨_, _, by rw [ends_length], by
    unfold ends
    rw [hT]
    exact I.ints h16, I.below⟩)
  generalize Got w (ends xs ys) 0 = D at *
  rw [hT] at HS
  generalize xs.length = n at *
  generalize ys.length = m at *
  have hmk := run_make_row' (P := Try.prog) 22 3 (.int .i64 0) 8 Try.underlying22 (by kernel_rfl) rfl .i64 .i64 n (by omega) (by omega)
  clear hx hy hR h0 hT
  go_enter Try.func9, Try.ntmps9
  go_wp2_with fail
  refine HW.out.mono ?_
  rintro e w1 ⟨rfl, rfl⟩
  clear HW
  go_upto_region 5 with fail
  have HI := Lib.hid (RowI.start (Below.refl w.heap.size w) n)
  generalize w.alloc (.cells (madeCells #[.int .i64 0] n) 3) = w1 at *
  obtain ⟨g, hg⟩ : ∃ g, w.heap.size = g := ⟨_, rfl⟩
  have HG := Lib.hid hg
  rw [hg] at HI ⊢
  clear hg hmk
  go_wp2_with fail
  go_loopg [20] n (fun k c wr => ∃ i : Nat, c = .int .i64 (i : Int) ∧ i + k = n ∧ Hid (RowI w wr g n (fun j => if j < i then T j else 0)))
  case atStart => exact ⟨0, rfl, by omega, HI⟩
  case round =>
    clear HI
    obtain ⟨i, rfl, hik, HI⟩ := hrel
    cases gk with
    | zero =>
      obtain rfl : i = n := by omega
      have HR := Lib.hid (HZ.out _ g (HI.out.congr fun j hj => if_pos hj))
      clear HI HZ HS
      go_wp2_with fail
      exact HR.out
    | succ k =>
      have hi : i < n := by omega
      have i1 : (i : Int) < (n : Int) := by omega
      have HC := Lib.hid (HS.out _ HI.out.below i hi)
      have HIK := Lib.hid hik
      go_wp2_with fail
      refine HC.out.mono ?_
      rintro e w2 ⟨rfl, q, rfl⟩
      have HJ : Hid (RowI w ((wr.drewN q).setCell ⟨g, i, none⟩ (.int .i64 (T i))) g n (fun j => if j < i + 1 then T j else 0)) := Lib.hid (((HI.out.drewN q).put i (T i)).congr fun j _ => by
        by_cases c : j = i
        · subst c; rw [if_pos rfl, if_pos (by omega)]
        · rw [if_neg c]
          by_cases c2 : j < i
          · rw [if_pos c2, if_pos (by omega)]
          · rw [if_neg c2, if_neg (by omega)])
      obtain ⟨c0, c1⟩ := (HI.out.drewN q).seat hi
      clear HI HC HS HZ
      go_wp2_with fail
      go_roundg k
      case measure => omega
      case rel => exact ⟨i + 1, by go_num, by have := HIK.out; omega, HJ⟩
theorem end_no {w : World} {A B : Option Addr} {xs ys : List Int} (hx : IntsIn w A xs) (hy : IntsIn w B ys) {err : Int} (h0 : wrongL xs ys = err) (h1 : err = 1 ∨ err = 2) (cx cy : Nat) :
    Calls Try.prog 9 #[.slice A xs.length cx, .slice B ys.length cy] w (Got w [] err) := by
  have HW := Lib.hid (wrong_any hx hy cx cy)
  rw [h0] at HW
  have HZ := Lib.hid (got_none (err := err) (Below.refl w.heap.size w))
  have hb : (err != 0) = true := by rcases h1 with rfl | rfl <;> rfl
  generalize Got w [] err = D at *
  clear hx hy h0 h1
  go_enter Try.func9, Try.ntmps9
  go_wp2_with fail
  refine HW.out.mono ?_
  rintro e w1 ⟨rfl, rfl⟩
  go_wp2_with fail
  exact HZ.out
end Go.Proofs.Ytemoleopabddnaa
