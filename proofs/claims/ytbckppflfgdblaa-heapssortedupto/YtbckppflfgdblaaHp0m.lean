/- The map of places: a look-up, a store, a deletion. -/
import Derived.Test.YtbckppflfgdblaaHp0
namespace Go.Proofs.Ytbckppflfgdblaa
open Go.RowKit Go.Maps

namespace MapIs
variable {w : World} {b n : Nat} {p : Places}

theorem of_block {w' : World} (h : MapIs w b n p) (e : w'.heap[b]? = w.heap[b]?) : MapIs w' b n p := by
  obtain ⟨D, ⟨es, clock, hb, r⟩, r2⟩ := h
  exact ⟨D, ⟨es, clock, e.trans hb, r⟩, r2⟩
theorem lt (h : MapIs w b n p) : b < w.heap.size := by obtain ⟨D, hD, _⟩ := h; exact hD.lt
theorem drewN (h : MapIs w b n p) (k : Nat) : MapIs (w.drewN k) b n p := h.of_block rfl

theorem look (h : MapIs w b n p) {x : Int} (hx : I64 x) : ∃ v, (Instr.lookup 52 (.map (some b)) (.int .i64 x) true).run Try.prog w = .ok (.tuple #[.int .i64 v, .bool (p x).isSome]) w ∧ ∀ u, p x = some u → u = v := by
  obtain ⟨D, hD, _, hp⟩ := h
  obtain ⟨v, ps, hrun, hv⟩ := hD.look_ok keyed Try.underlying52 (zero3 w) (plainElem_int Try.underlying3 (by decide)) (keyOf_int_mk Try.underlying3 hx)
  obtain ⟨c, rfl, hc, _⟩ := plainElem_int_inv Try.underlying3 hv
  obtain ⟨h1, h2⟩ := hp x hx
  refine ⟨c, by rw [hrun, h1], fun u hu => ?_⟩
  have e := h2 u hu
  simp only [Prod.mk.injEq] at hc
  rw [e] at hc
  simpa using hc.1

theorem isKey (x : Int) : WideAt.IsKeyLit (.int .i64 x) := trivial
theorem ne_lit {x y : Int} (h : x ≠ y) : (Lit.int .i64 x) ≠ .int .i64 y := fun e => h (by injection e)

theorem put {D : DataW Unit} (hD : IsMap D) {x v : Int} (hp : ∀ x, I64 x → Maps.has D (.int .i64 x) = (p x).isSome ∧ ∀ v, p x = some v → D.atKey (.int .i64 x) (.lit (.int .i64 0)) = .lit (.int .i64 v)) :
    ∀ y, I64 y → Maps.has (D.put (.int .i64 x) (.lit (.int .i64 v))) (.int .i64 y) = (upd p x v y).isSome ∧ ∀ u, upd p x v y = some u → (D.put (.int .i64 x) (.lit (.int .i64 v))).atKey (.int .i64 y) (.lit (.int .i64 0)) = .lit (.int .i64 u) := by
  intro y hy
  unfold upd
  by_cases e : y = x
  · subst e
    rw [has_put_same hD (isKey _), atKey_put_same hD (isKey _)]
    simp
  · rw [has_put_other (ne_lit e), atKey_put_other (ne_lit e)]
    simp only [e, if_false]
    exact hp y hy

theorem store (h : MapIs w b n p) {x v : Int} (hx : I64 x) (hv : I64 v) (hn : n < maxLen) {n' : Nat} (hn' : n' = if (p x).isSome then n else n + 1) :
    ∃ w', (Instr.mapUpdate 52 (.map (some b)) (.int .i64 x) (.int .i64 v)).run Try.prog w = .ok () w' ∧ MapIs w' b n' (upd p x v) ∧ w.mapTurned w' b := by
  obtain ⟨D, hD, hs, hp⟩ := h
  obtain ⟨w', hrun, ho, ht⟩ := hD.store keyed Try.underlying52 hn (keyOf_int_mk Try.underlying3 hx) (plainElem_int Try.underlying3 hv)
  have hsz : Maps.size (D.put (.int .i64 x) (.lit (.int .i64 v))) = n' := by
    rw [size_put (hD.tidy keyed), (hp x hx).1, hs, hn']
  refine ⟨w', hrun, ⟨_, ?_, hsz, put hD.isMap hp⟩, ht⟩
  obtain ⟨es, clock, hb, F, hle, hDe⟩ := ho
  refine ⟨es, clock, hb, F, ?_, hDe⟩
  rw [← hsz, hDe]
  simp [Maps.size, length_sorted]

theorem drop (h : MapIs w b n p) {x : Int} (hx : I64 x) (ty : TypeId) {n' : Nat} (hn' : n' + (if (p x).isSome then 1 else 0) = n) :
    ∃ w', (Builtin.delete_ #[52, 3] ty #[.map (some b), .int .i64 x]).run Try.prog w = .ok (.tuple #[]) w' ∧ MapIs w' b n' (del p x) ∧ w.mapTurned w' b := by
  obtain ⟨D, hD, hs, hp⟩ := h
  obtain ⟨w', hrun, ho, ht⟩ := hD.drop keyed Try.underlying52 (keyOf_int_mk Try.underlying3 hx) ty
  have hsz : Maps.size (D.del (.int .i64 x)) = n' := by
    have := size_del (k := .int .i64 x) (hD.tidy keyed)
    rw [(hp x hx).1, hs] at this
    omega
  refine ⟨w', hrun, ⟨_, ?_, hsz, fun y hy => ?_⟩, ht⟩
  · obtain ⟨es, clock, hb, F, hle, hDe⟩ := ho
    refine ⟨es, clock, hb, F, ?_, hDe⟩
    rw [← hsz, hDe]
    simp [Maps.size, length_sorted]
  · unfold _root_.Go.Proofs.Ytbckppflfgdblaa.del
    by_cases e : y = x
    · subst e
      rw [has_del_same]
      simp
    · rw [has_del_other (ne_lit e), atKey_del_other (ne_lit e)]
      simp only [e, if_false]
      exact hp y hy

theorem made (w : World) : MapIs (w.alloc (.map #[] 0)) w.heap.size 0 (fun _ => none) :=
  ⟨.map [], World.ownsMap_made w _ _ _, rfl, fun x _ => ⟨rfl, fun v hv => by cases hv⟩⟩
end MapIs

theorem chg_turned {w w' : World} {b : Nat} {S : Nat → Prop} (h : w.mapTurned w' b) (hs : S b) : Chg S w w' := Chg.of_grown h.grown (fun k e => by injection e with e; rw [← e]; exact hs)

end Go.Proofs.Ytbckppflfgdblaa
