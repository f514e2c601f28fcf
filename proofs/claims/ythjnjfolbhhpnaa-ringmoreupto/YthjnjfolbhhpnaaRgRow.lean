/- How arguments that are queues and slices of operations are read: helpers for the rows. -/
import Derived.Test.YthjnjfolbhhpnaaInRow
import Derived.Test.YthjnjfolbhhpnaaRg8
namespace Go.Proofs.Ythjnjfolbhhpnaa
open Go.ChangeShapes Go.WideShapes Go.ChangeAt Go.RowKit Go.Joins Go.Deep

theorem cells_queue : Try.prog.cellsOf 24 = 4 := by kernel_rfl
theorem cells_op : Try.prog.cellsOf 26 = 2 := by kernel_rfl
theorem bytes_op : Try.prog.bytesOf 26 = 16 := by kernel_rfl
theorem sized_part {H : Type} {ts : List TypeId} {ds : List (DataW H)} (hsz : (DataW.weightsEach Try.prog ts ds).all (· ≤ reachBytes) = true) {j : Nat} {t u e : TypeId} {fs : Array Field} {parts : List (DataW H)} (ht : ts[j]? = some t) (hd : ds[j]? = some (.agg parts)) (hu : Try.prog.underlying t = some (.struct fs))
    {i : Nat} {elems spare : List (DataW H)} (hi : (fs.toList.map (·.type))[i]? = some u) (hp : parts[i]? = some (.slice elems spare)) (hu2 : Try.prog.underlying u = some (.slice e)) : (elems.length + spare.length) * Try.prog.bytesOf e ≤ reachBytes := by
  have h1 : (elems.length + spare.length) * Try.prog.bytesOf e ∈ DataW.weightsEach Try.prog (fs.toList.map (·.type)) parts := DataW.weights_mem_each hi hp _ (by simp [DataW.weights, hu2])
  have := List.all_eq_true.1 hsz _ (DataW.weights_mem_each ht hd ((elems.length + spare.length) * Try.prog.bytesOf e) (by simp only [DataW.weights, hu]; exact h1))
  simpa using this
set_option maxRecDepth 100000 in
theorem open_queue {H : Type} {enc : TypeId × Value → H} {W : World} {r : Reach} {b0 : Nat} {v : Value} {d : DataW H} {p : List MemPlace} {ts : List TypeId} {ds : List (DataW H)} {j : Nat}
    (hsz : (DataW.weightsEach Try.prog ts ds).all (· ≤ reachBytes) = true) (hj : ts[j]? = some 24) (hd : ds[j]? = some d)
    (hv : Value.okWide Try.prog W r b0 24 v) (h : DataW.Trod enc Try.prog W 0 (fun _ => true) true 24 v d p) : ∃ q A cap, v = .agg (Qu.cells q A cap) ∧ CameI W A cap q.has ∧ I64 q.most ∧ I64 q.mb ∧ I64 q.dr := by
  obtain ⟨cs, rfl, hs4⟩ := okWide_struct Try.underlying24 hv
  obtain ⟨cs⟩ := cs
  have hl4 : cs.length = 4 := hs4.trans cells_queue
  obtain ⟨fuel, hf⟩ := h
  obtain ⟨y0, y1, y2, y3, n, hx, -, h0, h1, h2, h3⟩ := trod_struct4 Try.underlying24 hf
  obtain ⟨c0, c1, c2, c3, rfl⟩ : ∃ a b c d, cs = [a, b, c, d] := by
    match cs, hl4 with
    | [a, b, c, d], _ => exact ⟨a, b, c, d, rfl⟩
  have g0 : DataW.trod enc Try.prog W 0 (fun _ => true) true n 22 [c0] = some y0 := h0
  have g1 : DataW.trod enc Try.prog W 0 (fun _ => true) true n 3 [c1] = some y1 := h1
  have g2 : DataW.trod enc Try.prog W 0 (fun _ => true) true n 3 [c2] = some y2 := h2
  have g3 : DataW.trod enc Try.prog W 0 (fun _ => true) true n 3 [c3] = some y3 := h3
  clear h0 h1 h2 h3 hv hs4 hl4 hf
  obtain ⟨m, e1, -, w1⟩ := DataW.trod_int Try.underlying3 g1
  obtain ⟨mb, e2, -, w2⟩ := DataW.trod_int Try.underlying3 g2
  obtain ⟨dr, e3, -, w3⟩ := DataW.trod_int Try.underlying3 g3
  simp only [List.cons.injEq, and_true] at e1 e2 e3
  obtain ⟨A, len, cap, rfl⟩ : ∃ A len cap, c0 = .slice A len cap := by
    rcases open_slice under_ints g0 with ⟨hcs, _⟩ | ⟨a, len', cap', _, _, _, _, hcs, _⟩
    · simp only [List.cons.injEq, and_true] at hcs
      exact ⟨none, 0, 0, hcs⟩
    · simp only [List.cons.injEq, and_true] at hcs
      exact ⟨some a, len', cap', hcs⟩
  obtain ⟨d0, p0⟩ := y0
  simp only [Prod.mk.injEq] at hx
  obtain ⟨hd0, -⟩ := hx
  obtain ⟨xs, hlen, hC⟩ := open_ints (A := A) (len := len) (cap := cap) g0 (fun elems spare e => by
    subst e
    have := sized_part hsz hj (hd.trans (congrArg some hd0)) Try.underlying24 (i := 0) (u := 22) (elems := elems) (spare := spare) rfl rfl under_ints
    rw [bytes_int] at this
    exact this)
  refine ⟨⟨xs, m, mb, dr⟩, A, cap, ?_, hC, i64_of_wf w1, i64_of_wf w2, i64_of_wf w3⟩
  rw [e1, e2, e3, ← hlen]
  rfl
/-- Operations that came as an argument. -/
structure CameO (w : World) (A : Option Addr) (cap : Nat) (os : List (Int × Int)) : Prop where
  ops : OpsIn w A os
  room : os.length ≤ cap
  size : cap * 16 + 4096 ≤ 140737488355328
  nil : A = none → os = [] ∧ cap = 0
theorem open_ops {H : Type} {enc : TypeId × Value → H} {W : World} {A : Option Addr} {len cap : Nat} {d : DataW H} {p : List MemPlace} (h : DataW.Trod enc Try.prog W 0 (fun _ => true) true 33 (.slice A len cap) d p)
    (hsize : ∀ elems spare, d = .slice elems spare → (elems.length + spare.length) * 16 ≤ reachBytes) : ∃ os : List (Int × Int), os.length = len ∧ CameO W A cap os := by
  obtain ⟨fuel, hf⟩ := h
  obtain ⟨xs, h1, h2, h3, h4, h5, h6⟩ := open_rows Try.underlying33 cells_op (by decide) (fun o : Int × Int => [.int .i64 o.1, .int .i64 o.2]) (fun _ => True) (fun n cs x hl hx => by
    obtain ⟨a, hl2, e, _, _⟩ := trod_flat Try.underlying26 cells_op (by kernel_rfl) hx
    match a, hl2 with
    | [u, v], _ => exact ⟨(u, v), e, trivial⟩) hf hsize
  refine ⟨xs, h1, ⟨fun h0 => ?_, by omega⟩, by omega, h3, fun e => ?_⟩
  · obtain ⟨b, off, e, hb, hc⟩ := h6 (by omega)
    exact ⟨b, off, e, hb, fun j o ho => ⟨hc j o 0 ho (by decide), hc j o 1 ho (by decide)⟩⟩
  · obtain ⟨e1, e2⟩ := h4 e
    exact ⟨List.eq_nil_of_length_eq_zero (by omega), e2⟩
end Go.Proofs.Ythjnjfolbhhpnaa
