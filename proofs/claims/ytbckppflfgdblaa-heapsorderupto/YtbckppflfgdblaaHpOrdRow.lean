/- HeapsOrder of package weirhousekeep returns true for every argument whose reading is of bulk at most 1048576, and leaves its argument as it was: the statement HeapsOrderUptoSaid. -/
import Derived.Test.YtbckppflfgdblaaHp44
import Derived.Test.YtbckppflfgdblaaHpRow
import Derived.JoinedCond
namespace Go.Proofs.Ytbckppflfgdblaa
open Go.ChangeShapes Go.WideShapes Go.ChangeAt Go.RowKit Go.Joins Go.Deep

theorem trod_key {H : Type} {enc : TypeId × Value → H} {w : World} {base : Nat} {spare : Nat → Bool} {held : Bool} {n : Nat} {cs : List Value} {x : DataW H × List MemPlace}
    (h : DataW.trod enc Try.prog w base spare held n 35 cs = some x) : ∃ k : Int × Int, cs = [.int .u64 k.1, .int .u64 k.2] := by
  obtain ⟨z0, z1, n2, -, hl, g0, g1⟩ := trod_struct2 Try.underlying35 h
  rw [cells35] at hl
  rw [cells33] at g0 g1
  obtain ⟨a, e2, -, -⟩ := DataW.trod_int Try.underlying33 g0
  obtain ⟨c, e3, -, -⟩ := DataW.trod_int Try.underlying33 g1
  clear h g0 g1
  match cs, hl with
  | [c0, c1], _ =>
    refine ⟨(a, c), ?_⟩
    simp at e2 e3
    rw [e2, e3]
theorem cells2 {w : World} {a : Addr} {c0 c1 : Value} (h : w.cells? 0 a 2 = some [c0, c1]) : w.cell? (a.add 0) = some c0 ∧ w.cell? (a.add 1) = some c1 := by
  unfold World.cells? at h
  rw [if_pos (Nat.zero_le _)] at h
  have e : List.range 2 = [0, 1] := rfl
  rw [e] at h
  simp only [List.mapM_cons, List.mapM_nil, Option.pure_def, Option.bind_eq_bind, Option.bind_eq_some_iff, Option.some.injEq, List.cons.injEq] at h
  obtain ⟨x0, h0, x1, ⟨y1, h1, x2, h2, h5⟩, h7⟩ := h
  subst h2 h5
  simp only [List.cons.injEq, and_true] at h7
  obtain ⟨rfl, rfl⟩ := h7
  exact ⟨h0, h1⟩

theorem bulk_pos {H : Type} (d : DataW H) : 1 ≤ Rows.uptoBulk d := by
  cases d with
  | lit l => cases l <;> simp [Rows.uptoBulk]
  | _ => simp [Rows.uptoBulk]
theorem bulk_len {H : Type} (ds : List (DataW H)) : ds.length ≤ Rows.uptoBulkAll ds := by
  induction ds with
  | nil => simp [Rows.uptoBulkAll]
  | cons d r ih =>
    have := bulk_pos d
    simp only [Rows.uptoBulkAll, List.length_cons]
    omega

theorem open_keys {H : Type} {enc : TypeId × Value → H} {W : World} {A : Option Addr} {len cap : Nat} {d : DataW H} {p : List MemPlace} (h : DataW.Trod enc Try.prog W 0 (fun _ => true) true 49 (.slice A len cap) d p)
    (hsize : Rows.uptoBulk d ≤ 1048576) : ∃ b off ks, CameK W A b off len ks := by
  obtain ⟨fuel, hf⟩ := h
  rcases open_slice Try.underlying49 hf with ⟨hcs, hx⟩ | ⟨a, len', cap', m, n, D, Pl, hcs, _, hl, hm, hme, hx, hel⟩
  · simp [Value.cells] at hcs
    obtain ⟨rfl, rfl, rfl⟩ := hcs
    exact ⟨0, 0, [], rfl, fun j k hk => (by cases hk), fun h => (by cases h), by simp⟩
  · simp [Value.cells] at hcs
    obtain ⟨rfl, rfl, rfl⟩ := hcs
    simp only [if_true] at hme
    subst hme
    simp only [Prod.mk.injEq] at hx
    rw [hx.1] at hsize
    have hb1 := bulk_len ((List.range len).map D)
    simp only [Rows.uptoBulk] at hsize
    rw [List.length_map, List.length_range] at hb1
    rw [cells35] at hel
    have key : ∀ i, i < len → ∃ k : Int × Int, W.cells? 0 (a.add (i * 2)) 2 = some [.int .u64 k.1, .int .u64 k.2] := fun i hi => by
      obtain ⟨cs', h1, h2⟩ := hel i (by omega)
      obtain ⟨k, rfl⟩ := trod_key h2
      exact ⟨k, h1⟩
    obtain ⟨f, hfk⟩ := choose_lt key
    have hspot : 0 < len → a.spot = none := fun h0 => by
      obtain ⟨h0, -⟩ := cells2 (hfk 0 h0)
      simpa [Addr.add] using World.cell?_spot h0
    refine ⟨a.block, a.off, (List.range len).map f, by simp, fun j k hk => ?_, fun h0 => ?_, by omega⟩
    · rw [List.getElem?_map] at hk
      rcases Nat.lt_or_ge j len with hj | hj
      · rw [List.getElem?_range hj] at hk
        simp only [Option.map_some, Option.some.injEq] at hk
        subst hk
        obtain ⟨h0, h1⟩ := cells2 (hfk j hj)
        have hs := hspot (by omega)
        obtain ⟨b, off, spot⟩ := a
        simp only at hs
        subst hs
        simp only [add_plain] at h0 h1 ⊢
        exact ⟨h0, h1⟩
      · rw [List.getElem?_eq_none (by simpa using hj)] at hk
        cases hk
    · have := hspot h0
      obtain ⟨b, off, spot⟩ := a
      simp only at this
      rw [this]

set_option maxHeartbeats 800000 in
set_option maxRecDepth 100000 in
theorem heapsOrder_lifted (os : Os) (started : os.Started) (H : Type) (enc : TypeId × Value → H) (F : Stop.Interp) :
    ReturnsInHanded {} Try.checked os 7 .any ((Rows.OpenSpec.upto Rows.heapsOrderSpec).pre6 enc Try.prog Try.f7 Rows.heapsOrderUptoRow.domain false) (((Rows.OpenSpec.upto Rows.heapsOrderSpec).at F).post enc Try.prog Try.f7 false true false false) := by
  refine returnsInHanded_of_cond (C := Try.checked) (s := Rows.OpenSpec.upto Rows.heapsOrderSpec) (k := Rows.uptoSmall) rfl Try.own started (by kernel_rfl) Try.func7
    (OpenSpec.witness (enc := enc) (C := Try.checked) (s := Rows.OpenSpec.upto Rows.heapsOrderSpec) (k := Rows.uptoSmall) rfl false ⟨#[], #[.slice none 0 0], []⟩ 8 (by kernel_rfl) (by kernel_rfl) (by kernel_rfl)
      (x := ([.nil], [], [])) (by kernel_rfl) rfl (by kernel_rfl)) ?_
  intro W base args ds gs before hval0 hW _ hk _
  have hval : ∀ (j : Nat) t v, Try.f7.params[j]? = some t → args[j]? = some v → Value.okWide Try.prog W .any base t v := hval0
  have hW' := hW
  obtain ⟨p, q, hA0, hV, rfl, _, _⟩ := hW
  have hA : DataW.TrodAll enc Try.prog W 0 (fun _ => true) true Try.f7.params.toList args.toList ds p := hA0
  rw [Try.params7] at hA hval
  obtain ⟨v0, d0, rfl, rfl, h0⟩ := trodAll_one hA
  obtain ⟨rfl, rfl⟩ := trodVars_none hV
  have h0k := h0
  obtain ⟨A, len, cap, rfl⟩ := okWide_slice Try.underlying49 (hval 0 49 v0 rfl rfl)
  obtain ⟨b, off, ks, hC⟩ := open_keys h0 (by
    have h := of_decide_eq_true hk
    simp only [List.append_nil, Rows.uptoBulkAll] at h
    omega)
  clear hA0 hval0
  simp only [List.append_nil] at hW'
  have hlt : ∀ y ∈ p, y.block < W.heap.size := fun y hy => by simpa using hW'.lt y (by simp [hy])
  refine (order_law hC).mono fun e W' ⟨he, hn⟩ => ?_
  subst he
  exact ⟨_, rfl, _, _, _, [], _, [], hW', trodAll_mk1 (shut_bool Try.underlying4 _),
    trodAll_mk1 (Below.trod laidOut (by kernel_rfl) (of_decide_eq_true (by kernel_rfl)) h0k hn hlt),
    rfl, hn.frame _, fun h => by cases h⟩

theorem heapsOrder_upto : Rows.HeapsOrderUptoSaid :=
  OpenClaim.holds_of_cond 7 Try.f7 rfl rfl rfl rfl rfl rfl rfl ⟨rfl, rfl, rfl, rfl, rfl⟩ rfl rfl rfl rfl rfl (by kernel_rfl) Try.func7 (by kernel_rfl)
    (of_decide_eq_true (by kernel_rfl)) (by unfold Func.isWrapper; first | (rw [if_pos (by decide +kernel)]; kernel_rfl) | (rw [if_neg (by decide +kernel)]; exact ⟨rfl, rfl⟩))
    (fun os started H enc _ F => heapsOrder_lifted os started H enc F)
#print axioms heapsOrder_upto
end Go.Proofs.Ytbckppflfgdblaa
