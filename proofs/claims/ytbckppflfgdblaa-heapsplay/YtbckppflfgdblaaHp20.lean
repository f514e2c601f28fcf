/- The document's own answer: the table of keys, and its first one. -/
import Derived.Test.YtbckppflfgdblaaHpGood
import Derived.Maps.RangeWalk
namespace Go.Proofs.Ytbckppflfgdblaa
open Go.RowKit Go.Maps

/-- A number of 128 bits as an element of a map. -/
def wElem (v : Value) : Option (DataW Unit × List MemPlace) :=
  match v with
  | .agg cs => (match cs.toList with
    | [.int .u64 a, .int .u64 b] => some (.agg [.lit (.int .u64 a), .lit (.int .u64 b)], [])
    | _ => none)
  | _ => none
theorem wElem_mk (a b : Int) : wElem (.agg #[.int .u64 a, .int .u64 b]) = some (.agg [.lit (.int .u64 a), .lit (.int .u64 b)], []) := rfl
theorem wElem_inv {v : Value} {y : DataW Unit × List MemPlace} (h : wElem v = some y) : ∃ c : Int × Int, v = .agg #[.int .u64 c.1, .int .u64 c.2] ∧ y = (.agg [.lit (.int .u64 c.1), .lit (.int .u64 c.2)], []) := by
  unfold wElem at h
  split at h
  · rename_i cs
    split at h
    · rename_i a b e
      injection h with h
      exact ⟨(a, b), by rw [show cs = cs.toList.toArray from rfl, e], h.symm⟩
    · cases h
  · cases h
theorem Try.underlying58 : Try.prog.underlying 58 = some (.map 3 35) := by kernel_rfl
theorem zero35 (w : World) : (zeroValue 35).run Try.prog w = .ok (.agg #[.int .u64 0, .int .u64 0]) w := by kernel_rfl

def datum (k : Int × Int) : DataW Unit := .agg [.lit (.int .u64 k.1), .lit (.int .u64 k.2)]
theorem datum_inj {a b : Int × Int} (h : datum a = datum b) : a = b := by
  unfold datum at h
  simp only [DataW.agg.injEq, List.cons.injEq, DataW.lit.injEq, Lit.int.injEq, true_and, and_true] at h
  exact Prod.ext h.1 h.2

/-- D reads as the table M. -/
structure DM (D : DataW Unit) (n : Nat) (M : Held) : Prop where
  size : Maps.size D = n
  out : ∀ x, ¬ I64 x → M x = none
  has : ∀ x, I64 x → Maps.has D (.int .i64 x) = (M x).isSome
  val : ∀ x k, M x = some k → D.atKey (.int .i64 x) (datum (0, 0)) = datum k
def KMap (w : World) (b n : Nat) (M : Held) : Prop := ∃ D : DataW Unit, w.ownsMap Try.prog 3 wElem b n D ∧ DM D n M
theorem DM.i64 {D : DataW Unit} {n : Nat} {M : Held} (h : DM D n M) {x : Int} {k : Int × Int} (hx : M x = some k) : I64 x := by
  by_cases hi : I64 x
  · exact hi
  · rw [h.out x hi] at hx; cases hx

namespace KMap
variable {w : World} {b n : Nat} {M : Held}
theorem of_block {w' : World} (h : KMap w b n M) (e : w'.heap[b]? = w.heap[b]?) : KMap w' b n M := by
  obtain ⟨D, ⟨es, clock, hb, r⟩, r2⟩ := h
  exact ⟨D, ⟨es, clock, e.trans hb, r⟩, r2⟩
theorem lt (h : KMap w b n M) : b < w.heap.size := by obtain ⟨D, hD, _⟩ := h; exact hD.lt
theorem made (w : World) : KMap (w.alloc (.map #[] 0)) w.heap.size 0 (fun _ => none) :=
  ⟨.map [], World.ownsMap_made w _ _ _, rfl, fun _ _ => rfl, fun _ _ => rfl, fun _ _ h => by cases h⟩
theorem look (h : KMap w b n M) {x : Int} (hx : I64 x) : ∃ v0 v1, (Instr.lookup 58 (.map (some b)) (.int .i64 x) true).run Try.prog w = .ok (.tuple #[.agg #[.int .u64 v0, .int .u64 v1], .bool (M x).isSome]) w := by
  obtain ⟨D, hD, hM⟩ := h
  obtain ⟨v, ps, hrun, hv⟩ := hD.look_ok keyed Try.underlying58 (zero35 w) (wElem_mk 0 0) (keyOf_int_mk Try.underlying3 hx)
  obtain ⟨c, rfl, _⟩ := wElem_inv hv
  exact ⟨c.1, c.2, by rw [hrun, hM.has x hx]⟩
theorem size (h : KMap w b n M) (ty : TypeId) : (Builtin.len_ #[58] ty #[.map (some b)]).run Try.prog w = .ok (.int .i64 (n : Int)) w := by
  obtain ⟨D, hD, hM⟩ := h
  rw [hD.len Try.underlying58 ty, hM.size]
theorem store (h : KMap w b n M) {x : Int} (k : Int × Int) (hx : I64 x) (hn : n < maxLen) {n' : Nat} (hn' : n' = if (M x).isSome then n else n + 1) :
    ∃ w', (Instr.mapUpdate 58 (.map (some b)) (.int .i64 x) (.agg #[.int .u64 k.1, .int .u64 k.2])).run Try.prog w = .ok () w' ∧ KMap w' b n' (updM M x k) ∧ w.mapTurned w' b := by
  obtain ⟨D, hD, hM⟩ := h
  obtain ⟨w', hrun, ho, ht⟩ := hD.store keyed Try.underlying58 hn (keyOf_int_mk Try.underlying3 hx) (wElem_mk k.1 k.2)
  have hsz : Maps.size (D.put (.int .i64 x) (datum k)) = n' := by
    rw [size_put (hD.tidy keyed), hM.has x hx, hM.size, hn']
  refine ⟨w', hrun, ⟨_, ?_, hsz, fun y hy => ?_, fun y hy => ?_, fun y l hl => ?_⟩, ht⟩
  · obtain ⟨es, clock, hb, F, hle, hDe⟩ := ho
    refine ⟨es, clock, hb, F, ?_, hDe⟩
    have : Maps.size (D.put (.int .i64 x) (.agg [.lit (.int .u64 k.1), .lit (.int .u64 k.2)])) = n' := hsz
    rw [← this, hDe]
    simp [Maps.size, length_sorted]
  · unfold updM
    rw [if_neg (fun e => hy (by rw [e]; exact hx))]
    exact hM.out y hy
  · unfold updM
    by_cases e : y = x
    · subst e
      rw [has_put_same hD.isMap (MapIs.isKey _)]; simp
    · rw [has_put_other (MapIs.ne_lit e), if_neg e]; exact hM.has y hy
  · unfold updM at hl
    by_cases e : y = x
    · subst e
      rw [if_pos rfl] at hl
      rw [← Option.some.inj hl]
      exact atKey_put_same hD.isMap (MapIs.isKey _) _ _
    · rw [if_neg e] at hl
      rw [atKey_put_other (MapIs.ne_lit e)]; exact hM.val y l hl
theorem drop (h : KMap w b n M) {x : Int} (hx : I64 x) (ty : TypeId) {n' : Nat} (hn' : n' + (if (M x).isSome then 1 else 0) = n) :
    ∃ w', (Builtin.delete_ #[58, 3] ty #[.map (some b), .int .i64 x]).run Try.prog w = .ok (.tuple #[]) w' ∧ KMap w' b n' (delM M x) ∧ w.mapTurned w' b := by
  obtain ⟨D, hD, hM⟩ := h
  obtain ⟨w', hrun, ho, ht⟩ := hD.drop keyed Try.underlying58 (keyOf_int_mk Try.underlying3 hx) ty
  have hsz : Maps.size (D.del (.int .i64 x)) = n' := by
    have := size_del (k := .int .i64 x) (hD.tidy keyed)
    rw [hM.has x hx, hM.size] at this
    omega
  refine ⟨w', hrun, ⟨_, ?_, hsz, fun y hy => ?_, fun y hy => ?_, fun y l hl => ?_⟩, ht⟩
  · obtain ⟨es, clock, hb, F, hle, hDe⟩ := ho
    refine ⟨es, clock, hb, F, ?_, hDe⟩
    rw [← hsz, hDe]
    simp [Maps.size, length_sorted]
  · unfold delM
    split
    · rfl
    · exact hM.out y hy
  · unfold delM
    by_cases e : y = x
    · subst e
      rw [has_del_same]; simp
    · rw [has_del_other (MapIs.ne_lit e), if_neg e]; exact hM.has y hy
  · unfold delM at hl
    by_cases e : y = x
    · rw [if_pos e] at hl; cases hl
    · rw [if_neg e] at hl
      rw [atKey_del_other (MapIs.ne_lit e)]; exact hM.val y l hl
end KMap

/-! ### the loop over the table -/
/-- A look-up, told alone. -/
theorem look_one {w : World} {b n : Nat} {D : DataW Unit} (hD : w.ownsMap Try.prog 3 wElem b n D) {x : Int} (hx : I64 x) :
    ∃ v : Int × Int, (Instr.lookup 58 (.map (some b)) (.int .i64 x) false).run Try.prog w = .ok (.agg #[.int .u64 v.1, .int .u64 v.2]) w ∧ D.atKey (.int .i64 x) (datum (0, 0)) = datum v := by
  obtain ⟨es, clock, hb, F, _, rfl⟩ := hD
  rcases fit_look false keyed Try.underlying58 (zero35 w) hb F (keyOf_int_mk Try.underlying3 hx) with ⟨hrun, _, hat⟩ | ⟨e0, y, _, _, hrun, hRv, hat, _⟩
  · exact ⟨(0, 0), hrun, hat _⟩
  · obtain ⟨c, hc, rfl⟩ := wElem_inv hRv
    rw [hc] at hrun
    exact ⟨c, hrun, hat _⟩

theorem sameKey_int (y x : Int) : (Lit.int .i64 y).sameKey (.int .i64 x) = decide (y = x) := by simp [Lit.sameKey]
/-- Of those that have come the first is best (sm: one has come). -/
structure FI (M : Held) (left : Lit → Bool) (best : Int) (sm : Bool) : Prop where
  i64 : I64 best
  no : sm = false → ∀ y, (M y).isSome = true → left (.int .i64 y) = true
  yes : sm = true → left (.int .i64 best) = false ∧ ∃ k, M best = some k ∧ ∀ y l, M y = some l → left (.int .i64 y) = false → ¬ Bef ⟨y, l.1, l.2⟩ ⟨best, k.1, k.2⟩

theorem FI.pick {M : Held} {left : Lit → Bool} {best x : Int} {sm : Bool} {c : Int × Int} (h : FI M left best sm) (hx : I64 x) (hc : M x = some c) (hb : sm = true → ∀ k, M best = some k → Bef ⟨x, c.1, c.2⟩ ⟨best, k.1, k.2⟩) :
    FI M (fun z => left z && !z.sameKey (.int .i64 x)) x true := by
  refine ⟨hx, fun e => (by cases e), fun _ => ⟨by simp [sameKey_int], c, hc, fun y l hy hl => ?_⟩⟩
  simp only [sameKey_int, Bool.and_eq_false_iff, Bool.not_eq_false', decide_eq_true_eq] at hl
  rcases hl with hl | rfl
  · cases sm with
    | false => rw [h.no rfl y (by rw [hy]; rfl)] at hl; cases hl
    | true =>
      obtain ⟨_, k, hk, hf⟩ := h.yes rfl
      exact fun hbx => hf y l hy hl (hbx.trans (hb rfl k hk))
  · rw [hc] at hy
    injection hy with hy
    rw [hy]; exact Bef.irrefl _
theorem FI.stay {M : Held} {left : Lit → Bool} {best x : Int} {c : Int × Int} (h : FI M left best true) (hc : M x = some c) (hb : ∀ k, M best = some k → ¬ Bef ⟨x, c.1, c.2⟩ ⟨best, k.1, k.2⟩) :
    FI M (fun z => left z && !z.sameKey (.int .i64 x)) best true := by
  obtain ⟨h1, k, hk, hf⟩ := h.yes rfl
  refine ⟨h.i64, fun e => (by cases e), fun _ => ⟨by rw [h1]; rfl, k, hk, fun y l hy hl => ?_⟩⟩
  simp only [sameKey_int, Bool.and_eq_false_iff, Bool.not_eq_false', decide_eq_true_eq] at hl
  rcases hl with hl | rfl
  · exact hf y l hy hl
  · rw [hc] at hy
    injection hy with hy
    rw [← hy]; exact hb k hk
theorem FI.done {M : Held} {left : Lit → Bool} {best : Int} {sm : Bool} (h : FI M left best sm) (hl : ∀ kl, left kl = false) (hs : ∃ x, (M x).isSome = true) : best = least M := by
  cases sm with
  | false =>
    obtain ⟨x, hx⟩ := hs
    have := h.no rfl x hx
    rw [hl] at this
    cases this
  | true =>
    obtain ⟨_, k, hk, hf⟩ := h.yes rfl
    exact (least_eq ⟨k, hk, fun y l hy => hf y l hy (hl _)⟩).symm

end Go.Proofs.Ytbckppflfgdblaa
