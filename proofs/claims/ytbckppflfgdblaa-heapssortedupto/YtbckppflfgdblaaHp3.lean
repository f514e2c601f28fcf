/- (*queue).rise moves an item up as far as it has to go. -/
import Derived.Test.YtbckppflfgdblaaHp2
import Derived.Deep.LoopGhost
import Derived.IntWalk
namespace Go.Proofs.Ytbckppflfgdblaa
open Go.RowKit Go.Maps

theorem QH.keep {w w' : World} {q g m cap n : Nat} {P : Value} {f : Nat → It} {S : Nat → Prop} (h : QH w q g m cap n P f) (hc : Chg S w w') (hq : ¬ S q) (hg : ¬ S g) (hm : ¬ S m) : QH w' q g m cap n P f := by
  obtain ⟨F, hF, hf⟩ := h.items
  obtain ⟨p, hp, hpo⟩ := h.place
  exact ⟨h.row.of_block (hc.block q h.row.lt hq), h.ncap, h.capm, h.nmax, ⟨F, hF.of_block (hc.block g hF.lt hg), hf⟩, h.ids, ⟨p, hp.of_block (hc.block m hp.lt hm), hpo⟩⟩
theorem QH.below {w w' : World} {q g m cap n : Nat} {P : Value} {f : Nat → It} (h : QH w q g m cap n P f) (hb : Below w.heap.size w w') : QH w' q g m cap n P f := h.keep (Chg.of_below hb (fun _ => False)) id id id

/-- Behind rise: the item stands at k. -/
def Risen (q g m cap n : Nat) (P : Value) (M : Held) (w : World) (k : Nat) (w' : World) : Prop :=
  k < n ∧ ∃ f, QH w' q g m cap n P f ∧ HB f n k ∧ Rep f n M ∧ Chg (fun k => k = g ∨ k = m) w w'
def RisenE (q g m cap n : Nat) (P : Value) (M : Held) (w : World) (e : Ending) (w' : World) : Prop :=
  ∃ k : Nat, e = .returned (.int .i64 (k : Int)) ∧ k < n ∧ ∃ f, QH w' q g m cap n P f ∧ HB f n k ∧ Up f k ∧ Rep f n M ∧ Chg (fun k => k = g ∨ k = m) w w'

theorem risen_up {q g m cap n : Nat} {P : Value} {M : Held} {w w0 w1 w2 : World} {k p : Nat} {f : Nat → It} (h : QH w0 q g m cap n P f ∧ HB f n k ∧ Rep f n M ∧ Chg (fun k => k = g ∨ k = m) w w0) (hp : par k = p) (k0 : 0 < k) (hk : k < n) (ht : Bef (f k) (f p)) (hb1 : Below w0.heap.size w0 w1)
    (h2 : QH w2 q g m cap n P (swp f k p) ∧ Chg (fun k => k = g ∨ k = m) w1 w2) : Risen q g m cap n P M w p w2 := by
  subst hp
  have := par_lt k0
  exact ⟨by omega, _, h2.1, h.2.1.up k0 hk ht, h.2.2.1.swp hk (by omega), (h.2.2.2.trans (Chg.of_below hb1 _)).trans h2.2⟩

set_option maxHeartbeats 1000000 in
theorem rise_any {w : World} {q g m cap n : Nat} {P : Value} {f : Nat → It} {M : Held} (h : QH w q g m cap n P f) {k : Nat} (hk : k < n) (hb : HB f n k) (hr : Rep f n M) :
    Calls Try.prog 58 #[.pointer (some ⟨q, 0, none⟩), .int .i64 (k : Int)] w (RisenE q g m cap n P M w) := by
  have hst : Risen q g m cap n P M w k w := ⟨hk, f, h, hb, hr, Chg.refl _ _⟩
  have hn := h.nmax
  clear h hb hr
  go_enter Try.func58, Try.ntmps58
  go_wp2
  go_loopw [1] (fun a wr => ∃ k : Nat, a = .int .i64 (k : Int) ∧ k ≤ n ∧ Risen q g m cap n P M w k wr) (fun a _ => (intOf a).toNat)
  case atStart => exact ⟨k, rfl, by omega, hst⟩
  case round =>
    clear hst hk
    obtain ⟨k, rfl, hkn, hk, f, hQ, hb, hr, hc⟩ := hrel
    rcases Nat.eq_zero_or_pos k with rfl | k0
    · go_wp2
      go_ret
      exact ⟨0, rfl, hk, f, hQ, hb, fun h => by omega, hr, hc⟩
    · obtain ⟨p, hp⟩ : ∃ p, par k = p := ⟨_, rfl⟩
      have hp1 : ((k : Int) - 1) / 2 = (p : Int) := by rw [← hp]; unfold par; omega
      have hpk : p < k := by rw [← hp]; exact par_lt k0
      have HB' := before_any hQ hk (show p < n by omega)
      have HBe := Lib.hid HB'
      have HP := Lib.hid hp
      have HX := Lib.hid (And.intro hQ (And.intro hb (And.intro hr hc)))
      clear HB' hp hQ hb hr hc
      have k1 : (0 : Int) < (k : Int) := by omega
      cases ht : bef (f k) (f p)
      · rw [ht] at HBe
        go_wp2_with fail
        refine HBe.out.mono ?_
        rintro e w1 ⟨rfl, hb1⟩
        go_wp2
        go_ret
        exact ⟨k, rfl, hk, f, HX.out.1.below hb1, HX.out.2.1, fun _ => by rw [HP.out]; exact bef_false.1 ht, HX.out.2.2.1, HX.out.2.2.2.trans (Chg.of_below hb1 _)⟩
      · rw [ht] at HBe
        go_wp2_with fail
        refine HBe.out.mono ?_
        rintro e w1 ⟨rfl, hb1⟩
        have HS := Lib.hid (swap_any (HX.out.1.below hb1) hk (show p < n by omega))
        go_wp2_with fail
        refine HS.out.mono ?_
        rintro e w2 ⟨rfl, hQ2, hc2⟩
        have HY := Lib.hid (And.intro hQ2 hc2)
        clear hQ2 hc2
        go_wp2
        go_roundw
        case rel => exact ⟨p, rfl, by omega, risen_up HX.out HP.out k0 hk (bef_true.1 ht) hb1 HY.out⟩
        case measure => simp [intOf]; omega

end Go.Proofs.Ytbckppflfgdblaa
