/- (*queue).take removes the item at an index and returns its Id. -/
import Derived.Test.YtbckppflfgdblaaHp4
namespace Go.Proofs.Ytbckppflfgdblaa
open Go.RowKit Go.Maps

def delM (M : Held) (x : Int) : Held := fun y => if y = x then none else M y
def updM (M : Held) (x : Int) (k : Int × Int) : Held := fun y => if y = x then some k else M y

theorem HB.congr {f h : Nat → It} {n k : Nat} (H : HB f n k) (e : ∀ j, j < n → f j = h j) : HB h n k := by
  refine ⟨fun j j0 j1 j2 j3 => ?_, fun j j0 j1 j2 j3 => ?_⟩
  · have := par_lt j0
    rw [← e j j1, ← e (par j) (by omega)]; exact H.edge j j0 j1 j2 j3
  · have := par_lt j0
    have := par_lt j3
    rw [← e j j1, ← e (par k) (by omega)]; exact H.over j j0 j1 j2 j3
theorem Heap.take {f : Nat → It} {n k : Nat} (h : Heap f (n + 1)) (_ : k < n) : HB (swp f k n) n k := by
  have h0 : Heap f n := fun j j0 j1 => h j j0 (by omega)
  refine (h0.hb k (f n)).congr fun j hj => ?_
  by_cases e : j = k
  · simp only [e, if_true]; rw [swp_l]
  · simp only [e, if_false]; rw [swp_o f e (by omega)]
theorem Rep.pop {f : Nat → It} {n : Nat} {M : Held} (h : Rep f (n + 1) M) : Rep f n (delM M (f n).id) := by
  refine ⟨fun j hj => ?_, fun x k hx => ?_, fun i j hi hj he => h.one i j (by omega) (by omega) he⟩
  · unfold delM
    rw [if_neg (fun e => by have := h.one j n (by omega) (by omega) e; omega)]
    exact h.held j (by omega)
  · unfold delM at hx
    split at hx
    · cases hx
    · rename_i hne
      obtain ⟨j, hj, e⟩ := h.all x k hx
      exact ⟨j, by rcases Nat.lt_or_ge j n with h1 | h1; exact h1; exact absurd (by rw [← e]; congr; omega) hne, e⟩
theorem PlaceOk.pop {p : Places} {f : Nat → It} {n : Nat} (h : PlaceOk p f (n + 1)) : PlaceOk (del p (f n).id) f n := by
  intro x v
  unfold del
  by_cases e : x = (f n).id
  · subst e
    simp only [if_true]
    refine ⟨fun h => (by cases h), ?_⟩
    rintro ⟨j, hj, hx, _⟩
    have := h.one (i := j) (j := n) (by omega) (by omega) hx
    omega
  · simp only [e, if_false]
    rw [h x v]
    constructor
    · rintro ⟨j, hj, hx, hv⟩
      exact ⟨j, by rcases Nat.lt_or_ge j n with h1 | h1; exact h1; exact absurd (by rw [← hx]; congr; omega) e, hx, hv⟩
    · rintro ⟨j, hj, hx, hv⟩
      exact ⟨j, by omega, hx, hv⟩

theorem take_mid {w : World} {q g m cap n : Nat} {P : Value} {f : Nat → It} (h : QH w q g m cap (n + 1) P f) {W : World} (hW : W = w.setCell ⟨q, 0, none⟩ (.slice (some ⟨g, 0, none⟩) n cap)) :
    W.cell? ⟨q, 1, none⟩ = some (.map (some m)) ∧ ∃ W3, (Builtin.delete_ #[52, 3] 0 #[.map (some m), .int .i64 (f n).id]).run Try.prog W = .ok (.tuple #[]) W3 ∧ QH W3 q g m cap n P f ∧ Chg (fun k => k = q ∨ k = g ∨ k = m) w W3 := by
  subst hW
  obtain ⟨p, hp, hpo⟩ := h.place
  obtain ⟨F, hF, hf⟩ := h.items
  have hrow := (h.row.set 0 (.slice (some ⟨g, 0, none⟩) n cap)).congr (g := tri (.slice (some ⟨g, 0, none⟩) n cap) (.map (some m)) P) (fun i hi => by unfold tri; by_cases e : i = 0 <;> simp [e])
  have hF2 := hF.setOther (a := ⟨q, 0, none⟩) (fun e => h.qg e.symm) (.slice (some ⟨g, 0, none⟩) n cap)
  have hc : Chg (fun k => k = q) w (w.setCell ⟨q, 0, none⟩ (.slice (some ⟨g, 0, none⟩) n cap)) := (Chg.refl (fun k => k = q) w).set (p := ⟨q, 0, none⟩) (.inl rfl) _
  have hm2 : MapIs (w.setCell ⟨q, 0, none⟩ (.slice (some ⟨g, 0, none⟩) n cap)) m (n + 1) p := hp.of_block (hc.block m hp.lt (fun e => h.qm e.symm))
  refine ⟨hrow.cell (by omega), ?_⟩
  obtain ⟨W3, r3, m3, t3⟩ := hm2.drop (x := (f n).id) (h.ids n (by omega)) 0 (n' := n) (by rw [hpo.at (by omega)]; rfl)
  have k3 : Chg (fun k => k = m) _ W3 := chg_turned t3 rfl
  refine ⟨W3, r3, ⟨hrow.of_block (k3.block q hrow.lt h.qm), by have := h.ncap; omega, h.capm, by have := h.nmax; omega, ⟨F, hF2.of_block (k3.block g hF2.lt h.gm), fun j hj => hf j (by omega)⟩, fun j hj => h.ids j (by omega), ⟨_, m3, hpo.pop⟩⟩, ?_⟩
  exact (hc.mono (fun _ _ e => .inl e)).trans (k3.mono (fun _ _ e => .inr (.inr e)))

def Taken (q g m cap n : Nat) (P : Value) (M : Held) (x : Int) (w : World) (e : Ending) (w' : World) : Prop :=
  e = .returned (.int .i64 x) ∧ ∃ f, QH w' q g m cap n P f ∧ Heap f n ∧ Rep f n (delM M x) ∧ Chg (fun k => k = q ∨ k = g ∨ k = m) w w'

set_option maxHeartbeats 1000000 in
theorem take_any {w : World} {q g m cap n : Nat} {P : Value} {f : Nat → It} {M : Held} (h : QH w q g m cap (n + 1) P f) (hh : Heap f (n + 1)) (hr : Rep f (n + 1) M) {k : Nat} (hk : k < n + 1) :
    Calls Try.prog 38 #[.pointer (some ⟨q, 0, none⟩), .int .i64 (k : Int)] w (Taken q g m cap n P M (f k).id w) := by
  have hc0 := h.c0
  obtain ⟨a0, _, _⟩ := h.it hk
  have HS := Lib.hid (swap_any h hk (show n < n + 1 by omega))
  have i1 : (k : Int) < (n : Int) + 1 := by omega
  have hnm := h.nmax
  have hcm := h.capm
  have hnc := h.ncap
  have hn0 : (n : Int) ≤ (cap : Int) := by omega
  have HX := Lib.hid (And.intro hh hr)
  clear h hh hr
  by_cases hkn : k < n
  · go_enter Try.func38, Try.ntmps38
    go_wp2_with fail
    refine HS.out.mono ?_
    rintro e w1 ⟨rfl, hQ, hC⟩
    have d0 := hQ.c0
    have z0 := hQ.fz 0
    obtain ⟨W2, hW2⟩ : ∃ W2, W2 = w1.setCell ⟨q, 0, none⟩ (.slice (some ⟨g, 0, none⟩) n cap) := ⟨_, rfl⟩
    obtain ⟨d1, W3, r3, hQ3, hC3⟩ := take_mid hQ hW2
    rw [swp_r] at r3
    rw [hW2] at d1 r3
    clear hW2
    have HST := Lib.hid (settle_any hQ3 hkn (HX.out.1.take hkn) (M := delM M (f k).id) (by have := (HX.out.2.swp hk (show n < n + 1 by omega)).pop; rwa [swp_r] at this))
    have HC := Lib.hid (And.intro hC hC3)
    clear hQ hC hQ3 hC3
    go_wp2_with fail
    refine HST.out.mono ?_
    rintro e w4 ⟨rfl, f4, b1, b2, b3, b4⟩
    go_wp2
    go_ret
    exact ⟨rfl, f4, b1, b2, b3, ((HC.out.1.mono (fun _ _ e => .inr e)).trans HC.out.2).trans (b4.mono (fun _ _ e => .inr e))⟩
  · obtain rfl : k = n := by omega
    go_enter Try.func38, Try.ntmps38
    go_wp2_with fail
    refine HS.out.mono ?_
    rintro e w1 ⟨rfl, hQ, hC⟩
    rw [swp_self] at hQ
    have d0 := hQ.c0
    have z0 := hQ.fz 0
    obtain ⟨W2, hW2⟩ : ∃ W2, W2 = w1.setCell ⟨q, 0, none⟩ (.slice (some ⟨g, 0, none⟩) k cap) := ⟨_, rfl⟩
    obtain ⟨d1, W3, r3, hQ3, hC3⟩ := take_mid hQ hW2
    rw [hW2] at d1 r3
    clear hW2
    have HC := Lib.hid (And.intro hQ3 (And.intro hC hC3))
    clear hQ hC hQ3 hC3
    go_wp2
    go_ret
    exact ⟨rfl, f, HC.out.1, fun j j0 j1 => HX.out.1 j j0 (by omega), HX.out.2.pop, (HC.out.2.1.mono (fun _ _ e => .inr e)).trans HC.out.2.2⟩

end Go.Proofs.Ytbckppflfgdblaa
