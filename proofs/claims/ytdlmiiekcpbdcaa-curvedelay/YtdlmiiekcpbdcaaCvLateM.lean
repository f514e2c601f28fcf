/- CurveDelay, plain: what has come has gone so many units later; 's[:h]'. -/
import Derived.Test.YtdlmiiekcpbdcaaCvGood
namespace Go.Proofs.Ytdlmiiekcpbdcaa
open Go.RowKit Go.Maps

theorem srv_bounds {l s : Int} (hs : 0 ≤ s) : ∀ {xs : List Int} {q k : Int}, 0 ≤ q → (∀ x ∈ xs, 0 ≤ x) → ∀ y ∈ srv l s q k xs, 0 ≤ y ∧ y ≤ s
  | [], _, _, _, _, y, hy => by rw [srv_nil] at hy; cases hy
  | x :: xs, q, k, hq, hx, y, hy => by
    rw [srv_cons, List.mem_cons] at hy
    have h1 := sv_ge (l := l) (k := k) hq (hx x (by simp)) hs
    rcases hy with rfl | hy
    · exact ⟨h1.1, h1.2.2⟩
    · exact srv_bounds hs (by unfold sq; omega) (fun z hz => hx z (by simp [hz])) y hy
theorem tot_all {xs : List Int} (h : ∀ x ∈ xs, 0 ≤ x ∧ x ≤ 1048576) (i : Nat) : 0 ≤ tot (xs.take i) ∧ tot (xs.take i) ≤ 1048576 * (xs.length : Int) := by
  have h1 := tot_bound (xs := xs.take i) (fun x hx => h x (List.mem_of_mem_take hx))
  have h2 : (xs.take i).length ≤ xs.length := List.length_take_le' _ _
  omega
theorem tot_pos : ∀ {xs : List Int}, (∀ x ∈ xs, 0 ≤ x) → 0 ≤ tot xs
  | [], _ => by rw [tot_nil]; omega
  | x :: r, h => by
    have := h x (by simp)
    have := tot_pos (xs := r) (fun y hy => h y (by simp [hy]))
    rw [tot_cons]
    omega
/-- After i units: what came has gone, or waits. -/
theorem Good.after {b r l s : Int} {xs : List Int} (g : Good b r l s xs) : ∀ i, i ≤ xs.length → ∃ q k a done, Srv l s xs i q k done ∧ Inv b r l s a q k ∧ keepsGo b r a (xs.drop i) = true ∧ tot (xs.take i) = tot done + q
  | 0, _ => ⟨0, 0, 0, [], Srv.start l s xs, Inv.start (wrong4_false.1 g.f).1.1, g.go, by rw [List.take_zero]; rfl⟩
  | i + 1, hi => by
    obtain ⟨q, k, a, done, hs, hv, hk, ht⟩ := g.after i (by omega)
    have hf := wrong4_false.1 g.f
    have hx : xs[i]? = some xs[i] := List.getElem?_eq_getElem (by omega)
    have hx2 := (wtr_false.1 g.t).2 _ (List.mem_of_getElem? hx)
    rw [drop_next hx] at hk
    unfold keepsGo at hk
    rw [Bool.and_eq_true, decide_eq_true_eq] at hk
    refine ⟨_, _, _, _, (hs.next hx).1, hv.step hx2.1 hf.2.2.2.1 hf.2.2.1.1 hk.1, hk.2, ?_⟩
    rw [tot_snoc hx, ht, tot_append, tot_cons, tot_nil]
    unfold sq
    omega
theorem Good.late {b r l s : Int} {xs : List Int} (g : Good b r l s xs) (i d : Nat) (hd : (delay b r l s).1 = (d : Int)) (hi : i + d + 1 ≤ xs.length) : tot (xs.take (i + 1)) ≤ tot ((srv l s 0 0 xs).take (i + d + 1)) := by
  obtain ⟨q, k, a, done, hs, hv, hk, ht⟩ := g.after (i + 1) (by omega)
  have hf := wrong4_false.1 g.f
  have hx : ∀ x ∈ xs.drop (i + 1), 0 ≤ x := fun x hx => ((wtr_false.1 g.t).2 x (List.mem_of_mem_drop hx)).1
  have e : (srv l s 0 0 xs).take (i + d + 1) = done ++ (srv l s q k (xs.drop (i + 1))).take d := by
    rw [hs.eq, List.take_append, hs.len, List.take_of_length_le (by rw [hs.len]; omega)]
    congr 2
    omega
  rw [e, tot_append, ht]
  have hp : 0 ≤ tot ((srv l s q k (xs.drop (i + 1))).take d) := by
    apply (tot_pos fun y hy => ?_)
    exact (srv_bounds hf.2.2.2.1 hv.q0 hx y (List.mem_of_mem_take hy)).1
  by_cases c : q = 0
  · omega
  · have hq := hv.q0
    have hk1 : 1 ≤ k := by
      have := hv.k0
      have : k ≠ 0 := fun e => c (hv.z e)
      omega
    have h1 := drain hf.2.2.2.1 hf.2.2.1.1 d (xs := xs.drop (i + 1)) (q := q) (k := k) (by omega) hk1 hx (by rw [List.length_drop]; omega)
    have h2 := hv.p (by omega)
    have h3 := delay_enough g.dl hk1
    have h4 := hv.a1
    rw [hd] at h3
    omega
theorem late_sums {i d n H : Nat} {T0 T1 x d0 : Int} (hs : T1 = T0 + x) (hb : -1000000000000 ≤ T1 ∧ T1 ≤ 1000000000000) (hn : n ≤ 400) (hi : i < n) (hd : (d : Int) ≤ 4194304) (hd0 : d0 = (d : Int)) (hH : min (i + d + 1) n = H) :
    ∃ Y Z hI : Int, hI = (H : Int) ∧ Y = ((i + d : Nat) : Int) ∧ wrap64 (T0 + x) = T1 ∧ wrap64 ((i : Int) + d0) = Y ∧ wrap64 (Y + 1) = Z ∧ (¬ Z < 0) ∧ (if (n : Int) < Z then (n : Int) else Z) = hI := by
  refine ⟨((i + d : Nat) : Int), ((i + d + 1 : Nat) : Int), (H : Int), rfl, rfl, ?_, ?_, ?_, by omega, ?_⟩
  · rw [← hs]
    exact IntWalk.wrap64_in _ (by constructor <;> omega)
  · rw [IntWalk.wrap64_in _ (by constructor <;> omega)]; omega
  · rw [IntWalk.wrap64_in _ (by constructor <;> omega)]; omega
  · split <;> omega
theorem slice_head (g off len cap h : Nat) (hc : h ≤ cap) {hI : Int} (hh : hI = (h : Int)) (W : World) : (Instr.slice 35 (.slice (some ⟨g, off, none⟩) len cap) none (some (.int .i64 hI)) none).run Try.prog W = .ok (.slice (some ⟨g, off, none⟩) h cap) W := by
  have hadd : (⟨g, off, none⟩ : Addr).add 0 = ⟨g, off, none⟩ := by unfold Addr.add; split <;> simp_all
  subst hh
  rw [run_slice_h (P := Try.prog) W 35 (some ⟨g, off, none⟩) len cap elem_ints .i64 (h : Int) (by omega) (by omega), size_ints]
  simp [Result.andThen, sliced, hadd]

end Go.Proofs.Ytdlmiiekcpbdcaa
