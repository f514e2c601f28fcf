/- How arguments that are rules and headers are read: helpers for the rows. -/
import Derived.Test.YtandfbepenjbhaaRu4
import Derived.Test.YtandfbepenjbhaaTrRowA
namespace Go.Proofs.Ytandfbepenjbhaa
open Go.ChangeShapes Go.WideShapes Go.ChangeAt Go.RowKit Go.Joins Go.Deep

theorem cells_rule : Try.prog.cellsOf 32 = 14 := by kernel_rfl
theorem cells_head : Try.prog.cellsOf 25 = 13 := by kernel_rfl
theorem bytes_ru : Try.prog.bytesOf 32 = 56 := by kernel_rfl
theorem list7 {α : Type} {l : List α} (h : l.length = 7) : ∃ a0 a1 a2 a3 a4 a5 a6, l = [a0, a1, a2, a3, a4, a5, a6] := by
  match l, h with
  | [a0, a1, a2, a3, a4, a5, a6], _ => exact ⟨a0, a1, a2, a3, a4, a5, a6, rfl⟩
theorem list8 {α : Type} {l : List α} (h : l.length = 8) : ∃ a0 a1 a2 a3 a4 a5 a6 a7, l = [a0, a1, a2, a3, a4, a5, a6, a7] := by
  match l, h with
  | [a0, a1, a2, a3, a4, a5, a6, a7], _ => exact ⟨a0, a1, a2, a3, a4, a5, a6, a7, rfl⟩
theorem list13 {α : Type} {l : List α} (h : l.length = 13) : ∃ a0 a1 a2 a3 a4 a5 a6 a7 a8 a9 a10 a11 a12, l = [a0, a1, a2, a3, a4, a5, a6, a7, a8, a9, a10, a11, a12] := by
  match l, h with
  | [a0, a1, a2, a3, a4, a5, a6, a7, a8, a9, a10, a11, a12], _ => exact ⟨a0, a1, a2, a3, a4, a5, a6, a7, a8, a9, a10, a11, a12, rfl⟩
theorem list14 {α : Type} {l : List α} (h : l.length = 14) : ∃ a0 a1 a2 a3 a4 a5 a6 a7 a8 a9 a10 a11 a12 a13, l = [a0, a1, a2, a3, a4, a5, a6, a7, a8, a9, a10, a11, a12, a13] := by
  match l, h with
  | [a0, a1, a2, a3, a4, a5, a6, a7, a8, a9, a10, a11, a12, a13], _ => exact ⟨a0, a1, a2, a3, a4, a5, a6, a7, a8, a9, a10, a11, a12, a13, rfl⟩
set_option maxRecDepth 100000 in
theorem trod_ru {H : Type} {enc : TypeId × Value → H} {w : World} {base : Nat} {spare : Nat → Bool} {held : Bool} {n : Nat} {cs : List Value} (hl : cs.length = 14) {x : DataW H × List MemPlace}
    (h : DataW.trod enc Try.prog w base spare held n 32 cs = some x) : ∃ r : Ru, cs = r.cells ∧ r.Ok ∧ x.2 = [] := by
  obtain ⟨c0, c1, c2, c3, c4, c5, c6, c7, c8, c9, c10, c11, c12, c13, rfl⟩ := list14 hl
  obtain ⟨xs, n, -, hx, -, hlen, hff⟩ := DataW.trod_struct Try.underlying32 h
  obtain ⟨y0, y1, y2, y3, y4, y5, y6, y7, rfl⟩ := list8 (show xs.length = 8 from hlen)
  have g0 : DataW.trod enc Try.prog w base spare held n 23 (([c0, c1, c2, c3, c4, c5, c6, c7, c8, c9, c10, c11, c12, c13].drop 0).take (Try.prog.cellsOf 23)) = some y0 := hff 0 _ rfl
  have g1 : DataW.trod enc Try.prog w base spare held n 23 (([c0, c1, c2, c3, c4, c5, c6, c7, c8, c9, c10, c11, c12, c13].drop 4).take (Try.prog.cellsOf 23)) = some y1 := hff 1 _ rfl
  have g2 : DataW.trod enc Try.prog w base spare held n 3 (([c0, c1, c2, c3, c4, c5, c6, c7, c8, c9, c10, c11, c12, c13].drop 8).take (Try.prog.cellsOf 3)) = some y2 := hff 2 _ rfl
  have g3 : DataW.trod enc Try.prog w base spare held n 3 (([c0, c1, c2, c3, c4, c5, c6, c7, c8, c9, c10, c11, c12, c13].drop 9).take (Try.prog.cellsOf 3)) = some y3 := hff 3 _ rfl
  have g4 : DataW.trod enc Try.prog w base spare held n 3 (([c0, c1, c2, c3, c4, c5, c6, c7, c8, c9, c10, c11, c12, c13].drop 10).take (Try.prog.cellsOf 3)) = some y4 := hff 4 _ rfl
  have g5 : DataW.trod enc Try.prog w base spare held n 3 (([c0, c1, c2, c3, c4, c5, c6, c7, c8, c9, c10, c11, c12, c13].drop 11).take (Try.prog.cellsOf 3)) = some y5 := hff 5 _ rfl
  have g6 : DataW.trod enc Try.prog w base spare held n 3 (([c0, c1, c2, c3, c4, c5, c6, c7, c8, c9, c10, c11, c12, c13].drop 12).take (Try.prog.cellsOf 3)) = some y6 := hff 6 _ rfl
  have g7 : DataW.trod enc Try.prog w base spare held n 3 (([c0, c1, c2, c3, c4, c5, c6, c7, c8, c9, c10, c11, c12, c13].drop 13).take (Try.prog.cellsOf 3)) = some y7 := hff 7 _ rfl
  clear hff h hl
  rw [cells_arr] at g0 g1
  rw [cells_int] at g2 g3 g4 g5 g6 g7
  obtain ⟨s, es, hs, z0⟩ := trod_ad rfl g0
  obtain ⟨d, ed, hd, z1⟩ := trod_ad rfl g1
  obtain ⟨sb, e2, rfl, -⟩ := DataW.trod_int Try.underlying3 g2
  obtain ⟨db, e3, rfl, -⟩ := DataW.trod_int Try.underlying3 g3
  obtain ⟨pr, e4, rfl, -⟩ := DataW.trod_int Try.underlying3 g4
  obtain ⟨lo, e5, rfl, -⟩ := DataW.trod_int Try.underlying3 g5
  obtain ⟨hi, e6, rfl, -⟩ := DataW.trod_int Try.underlying3 g6
  obtain ⟨cl, e7, rfl, -⟩ := DataW.trod_int Try.underlying3 g7
  clear g0 g1 g2 g3 g4 g5 g6 g7
  refine ⟨⟨s, d, sb, db, pr, lo, hi, cl⟩, ?_, ⟨hs, hd⟩, ?_⟩
  · obtain ⟨s0, s1, s2, s3⟩ := s
    obtain ⟨d0, d1, d2, d3⟩ := d
    simp [Ad.cells] at es ed
    simp at e2 e3 e4 e5 e6 e7
    rw [es.1, es.2.1, es.2.2.1, es.2.2.2, ed.1, ed.2.1, ed.2.2.1, ed.2.2.2, e2, e3, e4, e5, e6, e7]; rfl
  · rw [hx]
    simp [z0, z1]

set_option maxRecDepth 100000 in
theorem trod_hd {H : Type} {enc : TypeId × Value → H} {w : World} {base : Nat} {spare : Nat → Bool} {held : Bool} {n : Nat} {cs : List Value} (hl : cs.length = 13) {x : DataW H × List MemPlace}
    (h : DataW.trod enc Try.prog w base spare held n 25 cs = some x) : ∃ r : Hd, cs = r.cells ∧ r.Ok ∧ x.2 = [] := by
  obtain ⟨c0, c1, c2, c3, c4, c5, c6, c7, c8, c9, c10, c11, c12, rfl⟩ := list13 hl
  obtain ⟨xs, n, -, hx, -, hlen, hff⟩ := DataW.trod_struct Try.underlying25 h
  obtain ⟨y0, y1, y2, y3, y4, y5, y6, rfl⟩ := list7 (show xs.length = 7 from hlen)
  have g0 : DataW.trod enc Try.prog w base spare held n 23 (([c0, c1, c2, c3, c4, c5, c6, c7, c8, c9, c10, c11, c12].drop 0).take (Try.prog.cellsOf 23)) = some y0 := hff 0 _ rfl
  have g1 : DataW.trod enc Try.prog w base spare held n 23 (([c0, c1, c2, c3, c4, c5, c6, c7, c8, c9, c10, c11, c12].drop 4).take (Try.prog.cellsOf 23)) = some y1 := hff 1 _ rfl
  have g2 : DataW.trod enc Try.prog w base spare held n 3 (([c0, c1, c2, c3, c4, c5, c6, c7, c8, c9, c10, c11, c12].drop 8).take (Try.prog.cellsOf 3)) = some y2 := hff 2 _ rfl
  have g3 : DataW.trod enc Try.prog w base spare held n 3 (([c0, c1, c2, c3, c4, c5, c6, c7, c8, c9, c10, c11, c12].drop 9).take (Try.prog.cellsOf 3)) = some y3 := hff 3 _ rfl
  have g4 : DataW.trod enc Try.prog w base spare held n 3 (([c0, c1, c2, c3, c4, c5, c6, c7, c8, c9, c10, c11, c12].drop 10).take (Try.prog.cellsOf 3)) = some y4 := hff 4 _ rfl
  have g5 : DataW.trod enc Try.prog w base spare held n 3 (([c0, c1, c2, c3, c4, c5, c6, c7, c8, c9, c10, c11, c12].drop 11).take (Try.prog.cellsOf 3)) = some y5 := hff 5 _ rfl
  have g6 : DataW.trod enc Try.prog w base spare held n 3 (([c0, c1, c2, c3, c4, c5, c6, c7, c8, c9, c10, c11, c12].drop 12).take (Try.prog.cellsOf 3)) = some y6 := hff 6 _ rfl
  clear hff h hl
  rw [cells_arr] at g0 g1
  rw [cells_int] at g2 g3 g4 g5 g6
  obtain ⟨s, es, hs, z0⟩ := trod_ad rfl g0
  obtain ⟨d, ed, hd, z1⟩ := trod_ad rfl g1
  obtain ⟨pr, e2, rfl, -⟩ := DataW.trod_int Try.underlying3 g2
  obtain ⟨sp, e3, rfl, -⟩ := DataW.trod_int Try.underlying3 g3
  obtain ⟨dp, e4, rfl, -⟩ := DataW.trod_int Try.underlying3 g4
  obtain ⟨ln, e5, rfl, -⟩ := DataW.trod_int Try.underlying3 g5
  obtain ⟨ma, e6, rfl, -⟩ := DataW.trod_int Try.underlying3 g6
  clear g0 g1 g2 g3 g4 g5 g6
  refine ⟨⟨s, d, pr, sp, dp, ln, ma⟩, ?_, ⟨hs, hd⟩, ?_⟩
  · obtain ⟨s0, s1, s2, s3⟩ := s
    obtain ⟨d0, d1, d2, d3⟩ := d
    simp [Ad.cells] at es ed
    simp at e2 e3 e4 e5 e6
    rw [es.1, es.2.1, es.2.2.1, es.2.2.2, ed.1, ed.2.1, ed.2.2.1, ed.2.2.2, e2, e3, e4, e5, e6]; rfl
  · rw [hx]
    simp [z0, z1]

set_option maxRecDepth 100000 in
theorem open_head {H : Type} {enc : TypeId × Value → H} {w : World} {base : Nat} {spare : Nat → Bool} {held : Bool} {r : Reach} {b0 : Nat} {v : Value} {d : DataW H} {p : List MemPlace}
    (hv : Value.okWide Try.prog w r b0 25 v) (h : DataW.Trod enc Try.prog w base spare held 25 v d p) : ∃ x : Hd, v = .agg x.cells.toArray ∧ x.Ok ∧ p = [] := by
  obtain ⟨cs, rfl, hsz⟩ := okWide_struct Try.underlying25 hv
  obtain ⟨cs⟩ := cs
  obtain ⟨fuel, hf⟩ := h
  obtain ⟨x, e, hx, hp⟩ := trod_hd (show cs.length = 13 from hsz.trans cells_head) hf
  have e2 : cs = x.cells := e
  exact ⟨x, by rw [e2], hx, hp⟩
/-- Rules that came as an argument. -/
structure CameR (w : World) (A : Option Addr) (cap : Nat) (rs : List Ru) : Prop where
  lies : RusIn w A rs
  room : rs.length ≤ cap
  size : rs.length * 56 + 4096 ≤ 140737488355328
  nil : A = none → rs = [] ∧ cap = 0
theorem CameR.below {w w' : World} {A : Option Addr} {cap : Nat} {rs : List Ru} (h : CameR w A cap rs) (hb : Below w.heap.size w w') : CameR w' A cap rs := ⟨h.lies.below hb, h.room, h.size, h.nil⟩
theorem open_rus {H : Type} {enc : TypeId × Value → H} {W : World} {A : Option Addr} {len cap : Nat} {d : DataW H} {p : List MemPlace} (h : DataW.Trod enc Try.prog W 0 (fun _ => true) true 22 (.slice A len cap) d p)
    (hsize : ∀ elems spare, d = .slice elems spare → (elems.length + spare.length) * 56 ≤ reachBytes) : ∃ rs : List Ru, rs.length = len ∧ CameR W A cap rs := by
  have : Inhabited Ru := ⟨⟨⟨0, 0, 0, 0⟩, ⟨0, 0, 0, 0⟩, 0, 0, 0, 0, 0, 0⟩⟩
  obtain ⟨xs, h1, h2, h3, h4, h5, h6⟩ := open_rows Try.underlying22 cells_rule (by decide) Ru.cells Ru.Ok (fun n cs x hl hx => by obtain ⟨q, e, ho, _⟩ := trod_ru hl hx; exact ⟨q, e, ho⟩) h hsize
  refine ⟨xs, h1, ⟨fun h0 => ?_, h5, by omega⟩, by omega, by omega, fun e => ?_⟩
  · obtain ⟨b, off, e, hb, hc⟩ := h6 (by omega)
    exact ⟨b, off, e, hb, fun j r hr i hi => hc j r i hr hi⟩
  · obtain ⟨e1, e2⟩ := h4 e
    exact ⟨List.eq_nil_of_length_eq_zero (by omega), e2⟩
end Go.Proofs.Ytandfbepenjbhaa
