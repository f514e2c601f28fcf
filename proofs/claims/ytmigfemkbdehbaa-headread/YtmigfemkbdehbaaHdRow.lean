/- How an argument that is a packet header is read: helpers for the rows. -/
import Derived.Test.YtmigfemkbdehbaaSmRow
import Derived.Test.YtmigfemkbdehbaaHdMath
import Derived.Laws.IdiomArrays
namespace Go.Proofs.Ytmigfemkbdehbaa
open Go.ChangeShapes Go.WideShapes Go.ChangeAt Go.RowKit Go.Joins Go.Deep

theorem cells_head : Try.prog.cellsOf 24 = 13 := by kernel_rfl
theorem cells_arr : Try.prog.cellsOf 22 = 4 := by kernel_rfl
theorem cells_int : Try.prog.cellsOf 3 = 1 := by kernel_rfl
theorem list13 {α : Type} {l : List α} (h : l.length = 13) : ∃ a0 a1 a2 a3 b0 b1 b2 b3 c0 c1 c2 c3 c4, l = [a0, a1, a2, a3, b0, b1, b2, b3, c0, c1, c2, c3, c4] := by
  match l, h with
  | [a0, a1, a2, a3, b0, b1, b2, b3, c0, c1, c2, c3, c4], _ => exact ⟨a0, a1, a2, a3, b0, b1, b2, b3, c0, c1, c2, c3, c4, rfl⟩
theorem list7 {α : Type} {l : List α} (h : l.length = 7) : ∃ a0 a1 a2 a3 a4 a5 a6, l = [a0, a1, a2, a3, a4, a5, a6] := by
  match l, h with
  | [a0, a1, a2, a3, a4, a5, a6], _ => exact ⟨a0, a1, a2, a3, a4, a5, a6, rfl⟩
theorem open_arr4 {H : Type} {enc : TypeId × Value → H} {w : World} {base : Nat} {spare : Nat → Bool} {held : Bool} {n : Nat} {c0 c1 c2 c3 : Value} {x : DataW H × List MemPlace}
    (h : DataW.trod enc Try.prog w base spare held n 22 [c0, c1, c2, c3] = some x) :
    ∃ a b c d : Int, c0 = .int .u8 a ∧ c1 = .int .u8 b ∧ c2 = .int .u8 c ∧ c3 = .int .u8 d ∧ Byte a ∧ Byte b ∧ Byte c ∧ Byte d ∧ x.2 = [] := by
  obtain ⟨y0, y1, y2, y3, m, rfl, h0, h1, h2, h3⟩ := trod_array4 Try.underlying22 cells5 h
  obtain ⟨a, e0, rfl, w0⟩ := DataW.trod_int Try.underlying5 h0
  obtain ⟨b, e1, rfl, w1⟩ := DataW.trod_int Try.underlying5 h1
  obtain ⟨c, e2, rfl, w2⟩ := DataW.trod_int Try.underlying5 h2
  obtain ⟨d, e3, rfl, w3⟩ := DataW.trod_int Try.underlying5 h3
  simp only [List.cons.injEq, and_true] at e0 e1 e2 e3
  exact ⟨a, b, c, d, e0, e1, e2, e3, byte_of_wf w0, byte_of_wf w1, byte_of_wf w2, byte_of_wf w3, rfl⟩
theorem open_int1 {H : Type} {enc : TypeId × Value → H} {w : World} {base : Nat} {spare : Nat → Bool} {held : Bool} {n : Nat} {c0 : Value} {x : DataW H × List MemPlace}
    (h : DataW.trod enc Try.prog w base spare held n 3 [c0] = some x) : ∃ a : Int, c0 = .int .i64 a ∧ I64 a ∧ x.2 = [] := by
  obtain ⟨a, e0, rfl, w0⟩ := DataW.trod_int Try.underlying3 h
  simp only [List.cons.injEq, and_true] at e0
  exact ⟨a, e0, bounds_i64 w0, rfl⟩
set_option maxRecDepth 100000 in
theorem open_head {H : Type} {enc : TypeId × Value → H} {w : World} {base : Nat} {spare : Nat → Bool} {held : Bool} {r : Reach} {b0 : Nat} {v : Value} {d : DataW H} {p : List MemPlace}
    (hv : Value.okWide Try.prog w r b0 24 v) (h : DataW.Trod enc Try.prog w base spare held 24 v d p) :
    ∃ hd : Hd, v = .agg hd.cells.toArray ∧ hd.Fine ∧ p = [] := by
  obtain ⟨cs, rfl, hsz⟩ := okWide_struct Try.underlying24 hv
  obtain ⟨cs⟩ := cs
  obtain ⟨a0, a1, a2, a3, b0, b1, b2, b3, c0, c1, c2, c3, c4, rfl⟩ := list13 (show cs.length = 13 from hsz.trans cells_head)
  obtain ⟨fuel, hf⟩ := h
  obtain ⟨xs, n, -, hx, -, hlen, hff⟩ := DataW.trod_struct Try.underlying24 hf
  obtain ⟨y0, y1, y2, y3, y4, y5, y6, rfl⟩ := list7 (show xs.length = 7 from hlen)
  have g0 : DataW.trod enc Try.prog w base spare held n 22 (([a0, a1, a2, a3, b0, b1, b2, b3, c0, c1, c2, c3, c4].drop 0).take (Try.prog.cellsOf 22)) = some y0 := hff 0 _ rfl
  have g1 : DataW.trod enc Try.prog w base spare held n 22 (([a0, a1, a2, a3, b0, b1, b2, b3, c0, c1, c2, c3, c4].drop 4).take (Try.prog.cellsOf 22)) = some y1 := hff 1 _ rfl
  have g2 : DataW.trod enc Try.prog w base spare held n 3 (([a0, a1, a2, a3, b0, b1, b2, b3, c0, c1, c2, c3, c4].drop 8).take (Try.prog.cellsOf 3)) = some y2 := hff 2 _ rfl
  have g3 : DataW.trod enc Try.prog w base spare held n 3 (([a0, a1, a2, a3, b0, b1, b2, b3, c0, c1, c2, c3, c4].drop 9).take (Try.prog.cellsOf 3)) = some y3 := hff 3 _ rfl
  have g4 : DataW.trod enc Try.prog w base spare held n 3 (([a0, a1, a2, a3, b0, b1, b2, b3, c0, c1, c2, c3, c4].drop 10).take (Try.prog.cellsOf 3)) = some y4 := hff 4 _ rfl
  have g5 : DataW.trod enc Try.prog w base spare held n 3 (([a0, a1, a2, a3, b0, b1, b2, b3, c0, c1, c2, c3, c4].drop 11).take (Try.prog.cellsOf 3)) = some y5 := hff 5 _ rfl
  have g6 : DataW.trod enc Try.prog w base spare held n 3 (([a0, a1, a2, a3, b0, b1, b2, b3, c0, c1, c2, c3, c4].drop 12).take (Try.prog.cellsOf 3)) = some y6 := hff 6 _ rfl
  clear hff hv hsz hf
  rw [cells_arr] at g0 g1
  rw [cells_int] at g2 g3 g4 g5 g6
  obtain ⟨s0, s1, s2, s3, e0, e1, e2, e3, q0, q1, q2, q3, z0⟩ := open_arr4 g0
  obtain ⟨t0, t1, t2, t3, f0, f1, f2, f3, r0, r1, r2, r3, z1⟩ := open_arr4 g1
  obtain ⟨pr, u2, k2, z2⟩ := open_int1 g2
  obtain ⟨sp, u3, k3, z3⟩ := open_int1 g3
  obtain ⟨dp, u4, k4, z4⟩ := open_int1 g4
  obtain ⟨ln, u5, k5, z5⟩ := open_int1 g5
  obtain ⟨ma, u6, k6, z6⟩ := open_int1 g6
  clear g0 g1 g2 g3 g4 g5 g6
  refine ⟨⟨s0, s1, s2, s3, t0, t1, t2, t3, pr, sp, dp, ln, ma⟩, ?_, ⟨q0, q1, q2, q3, r0, r1, r2, r3, k2, k3, k4, k5, k6⟩, ?_⟩
  · rw [e0, e1, e2, e3, f0, f1, f2, f3, u2, u3, u4, u5, u6]
    rfl
  · simp only [Prod.mk.injEq] at hx
    rw [hx.2]
    simp [z0, z1, z2, z3, z4, z5, z6]
theorem open_cap {H : Type} {enc : TypeId × Value → H} {W : World} {A : Option Addr} {len cap : Nat} {d : DataW H} {p : List MemPlace} (h : DataW.Trod enc Try.prog W 0 (fun _ => true) true 25 (.slice A len cap) d p) : len ≤ cap := by
  obtain ⟨fuel, hf⟩ := h
  rcases open_slice Try.underlying25 hf with ⟨hcs, hx⟩ | ⟨a, len', cap', m, n, D, Pl, hcs, _, hl, _⟩
  · simp [Value.cells] at hcs
    omega
  · simp [Value.cells] at hcs
    omega
end Go.Proofs.Ytmigfemkbdehbaa
