/- Package scfq: idle, Play. -/
import Derived.Test.YtobkepipmmkboaaSc7
import Derived.Test.YtobkepipmmkboaaTh1
namespace Go.Proofs.Ytobkepipmmkboaa
open Go.RowKit Go.Maps

theorem info_flow : (Try.prog.info? 60).map (fun i => (i.zero, i.size, i.bytes)) = some (some (.agg #[.int .i64 0, .int .i64 0, .slice none 0 0]), 3, 40) := by kernel_rfl
theorem make_flows (n : Nat) (hn : n ≤ 16) (w : World) : (Instr.makeSlice 45 (.int .i64 (n : Int)) (.int .i64 (n : Int))).run Try.prog w = .ok (.slice (some ⟨w.heap.size, 0, none⟩) n n) (w.alloc (.cells (madeCells #[.int .i64 0, .int .i64 0, .slice none 0 0] (n * 3)) 60)) := by
  obtain ⟨i, hi, hzz⟩ := Option.map_eq_some_iff.1 info_flow
  simp only [Prod.mk.injEq] at hzz
  obtain ⟨hz, hs, hb⟩ := hzz
  have hr := run_make (P := Try.prog) w 45 60 i _ Try.underlying45 hi hz .i64 .i64 n n (by omega) (Int.le_refl _) (by rw [hb]; omega) (by omega)
  simp only [Int.toNat_natCast, hs] at hr
  exact hr
/-- Flows of one's own: weights, and nothing else yet. -/
structure FlR (w wr : World) (g n : Nat) (a : Nat → Int) : Prop where
  below : Below w.heap.size w wr
  far : w.heap.size ≤ g
  row : wr.rowIs g 60 (n * 3) (flc a (fun _ => 0) (fun _ => .slice none 0 0))
namespace FlR
variable {w wr W : World} {g n : Nat} {a : Nat → Int}
theorem start (w : World) (n : Nat) : FlR w (w.alloc (.cells (madeCells #[.int .i64 0, .int .i64 0, .slice none 0 0] (n * 3)) 60)) w.heap.size n (fun _ => 0) := by
  refine ⟨(Below.refl _ _).alloc (Nat.le_refl _) _, Nat.le_refl _, ?_⟩
  have h := World.rowIs_alloc w (madeCells #[.int .i64 0, .int .i64 0, .slice none 0 0] (n * 3)) 60 (flc (fun _ => 0) (fun _ => 0) (fun _ => .slice none 0 0)) (fun i hi => by
    rw [size_madeCells] at hi
    unfold madeCells flc
    rw [Array.getElem?_map, Array.getElem?_range, if_pos hi, Option.map_some]
    congr 1
    show #[Value.int .i64 0, .int .i64 0, .slice none 0 0][i % 3]! = _
    have h3 : i % 3 < 3 := Nat.mod_lt _ (by decide)
    generalize i % 3 = r at *
    rcases (by omega : r = 0 ∨ r = 1 ∨ r = 2) with rfl | rfl | rfl <;> rfl)
  rwa [size_madeCells] at h
theorem seat (I : FlR w wr g n a) {i : Nat} (hi : i < n) : wr.cell? ⟨g, i * 3, none⟩ = some (.int .i64 (a i)) ∧ wr.frozen? ⟨g, i * 3, none⟩ = false := ⟨by rw [I.row.cell (by omega), flc0], I.row.frozen _⟩
theorem put (I : FlR w wr g n a) (k : Nat) (x : Int) : FlR w (wr.setCell ⟨g, k * 3, none⟩ (.int .i64 x)) g n (fun j => if j = k then x else a j) :=
  ⟨I.below.setCell I.far _, I.far, (I.row.set (k * 3) _).congr fun j _ => flc_set0 _ _ _ k x j⟩
end FlR
set_option maxRecDepth 100000 in
set_option maxHeartbeats 8000000 in
theorem idle_any {w : World} {A : Option Addr} {xs : List Int} {n : Nat} (hx : IntsIn w A xs) (hn : xs.length = n) (hn16 : n ≤ 16) (cx : Nat) :
    Calls Try.prog 16 #[.slice A n cx] w fun e w' => ∃ g, e = .returned (.slice (some ⟨g, 0, none⟩) n n) ∧ FlR w w' g n (fn xs) := by
  have HP := Lib.hid (fun W (hW : Below w.heap.size w W) => hx.below hW)
  have HN := Lib.hid hn
  have HE : Hid (∀ j, n ≤ j → fn xs j = 0) := Lib.hid (fun j hj => by
    unfold fn
    rw [List.getD_eq_getElem?_getD, List.getElem?_eq_none (by omega)]
    rfl)
  clear hx hn
  have hmk := fun w => make_flows n hn16 w
  go_enter Try.func16, Try.ntmps16
  go_upto_region 2 with fail
  have HI := Lib.hid (FlR.start w n)
  generalize w.alloc (.cells (madeCells #[.int .i64 0, .int .i64 0, .slice none 0 0] (n * 3)) 60) = w1 at *
  obtain ⟨g, hg⟩ : ∃ g, w.heap.size = g := ⟨_, rfl⟩
  have HG := Lib.hid hg
  rw [hg] at HI ⊢
  clear hg hmk
  go_wp2_with fail
  go_loopg [11] n (fun z c wi => ∃ i : Nat, c = .int .i64 (i : Int) ∧ i + z = n ∧ Hid (FlR w wi g n (fun j => if j < i then fn xs j else 0)))
  case atStart => exact ⟨0, rfl, by omega, HI⟩
  case round =>
    clear HI
    obtain ⟨i, rfl, hiz, HI⟩ := hrel
    cases gk with
    | zero =>
      obtain rfl : i = n := by omega
      have HR : Hid (FlR w wr g i (fn xs)) := Lib.hid (by
        have := HI.out
        rwa [show (fun j => if j < i then fn xs j else 0) = fn xs from funext fun j => by
          by_cases c : j < i
          · rw [if_pos c]
          · rw [if_neg c, HE.out j (by omega)]] at this)
      clear HI HP HG HE
      go_wp2_with fail
      go_ret
      exact ⟨g, rfl, HR.out⟩
    | succ z =>
      have hi : i < n := by omega
      have i1 : (i : Int) < (n : Int) := by omega
      obtain ⟨b, off, x, rfl, hx, hat, hbl⟩ := (HP.out _ HI.out.below).next (i := i) (by rw [HN.out]; exact hi)
      obtain ⟨q0, q1⟩ := HI.out.seat hi
      have HM : Hid (FlR w (wr.setCell ⟨g, i * 3, none⟩ (.int .i64 x)) g n (fun j => if j < i + 1 then fn xs j else 0)) := Lib.hid (by
        have := HI.out.put i x
        rwa [show (fun j => if j = i then x else if j < i then fn xs j else 0) = (fun j => if j < i + 1 then fn xs j else 0) from funext fun j => by
          by_cases e : j = i
          · subst e
            rw [if_pos rfl, if_pos (by omega), fn_at hx]
          · rw [if_neg e]
            by_cases d : j < i
            · rw [if_pos d, if_pos (by omega)]
            · rw [if_neg d, if_neg (by omega)]] at this)
      rw [if_neg (by omega)] at q0
      clear HI HP HG HE hx
      go_wp2_with fail
      go_roundg z
      case measure => omega
      case rel => exact ⟨i + 1, by go_num, by omega, HM⟩
end Go.Proofs.Ytobkepipmmkboaa
