/- Package scfq: add, take. -/
import Derived.Test.YtobkepipmmkboaaSc3
namespace Go.Proofs.Ytobkepipmmkboaa
open Go.RowKit Go.Maps

theorem wrap_in {x : Int} (h0 : -9223372036854775808 ≤ x) (h1 : x ≤ 9223372036854775807) : IntKind.i64.wrap x = x := by
  rw [IntKind.wrap_i64]
  omega
set_option maxRecDepth 100000 in
set_option maxHeartbeats 8000000 in
theorem add_any {w wr : World} {lb fb eb n : Nat} {o : Obj} {xs : List Int} {S : List (Nat × Int)} {s : Sc} (h : LkE w wr lb fb eb o n xs S s) (hR : Right xs) (hn : xs.length = n) {k : Nat} (hk : k < n) {b : Int} (hb : 1 ≤ b ∧ b ≤ 1500) (hL : s.Low 400) :
    Calls Try.prog 25 #[.pointer (some ⟨fb, k * 3, none⟩), .int .i64 b, .int .i64 s.tm] wr fun e w' => e = .returned (.tuple #[]) ∧ LkE w w' lb fb eb o n xs S (s.come (uW xs) k b) := by
  obtain ⟨v, Aq, cq, h⟩ := h
  have h1 := hR.fn (k := k) (by omega)
  have h2 := hL.tm
  have h3 := hL.last k
  have h4 := hL.few k
  have h5 := uW_bounds hR k
  have h6 : 0 ≤ b * (27720 / fn xs k) ∧ b * (27720 / fn xs k) ≤ 1500 * 27720 := ⟨Int.mul_nonneg (by omega) h5.1, Int.mul_le_mul hb.2 h5.2 h5.1 (by decide)⟩
  have f0 := h.f0 hk
  have f1 := h.f1 hk
  have fz := h.ffz (k * 3 + 1)
  have hlt := h.flows.lt
  have e1 : IntKind.i64.wrap (b * (27720 / fn xs k)) = b * (27720 / fn xs k) := wrap_in (by omega) (by omega)
  obtain ⟨t, ht⟩ : ∃ t, (if s.tm < s.last k then s.last k else s.tm) + b * (27720 / fn xs k) = t := ⟨_, rfl⟩
  have e2 : IntKind.i64.wrap ((if s.tm < s.last k then s.last k else s.tm) + b * (27720 / fn xs k)) = t := by
    rw [ht]
    refine wrap_in ?_ ?_ <;> (rw [← ht]; split <;> omega)
  have htag : s.tag (uW xs) k b = t := by
    rw [← ht]
    unfold Sc.tag uW
    rw [Int.mul_comm b]
    split <;> omega
  have HP := Lib.hid (h.putLast k t)
  have HF : Hid (∀ W v Aq cq, Lk w W lb fb eb o n xs S ⟨s.tm, fun i => if i = k then t else s.last i, fun i => if i = k then s.q k ++ [(b, t)] else s.q i⟩ v Aq cq → LkE w W lb fb eb o n xs S (s.come (uW xs) k b)) := Lib.hid (fun W v Aq cq hW => by
    unfold Sc.come
    rw [htag]
    exact ⟨v, Aq, cq, hW⟩)
  obtain ⟨h1, h7⟩ := h1
  have hw : ∃ D : World → Prop, D = fun W => LkE w W lb fb eb o n xs S (s.come (uW xs) k b) := ⟨_, rfl⟩
  obtain ⟨D, hD⟩ := hw
  have HD : Hid (∀ W v Aq cq, Lk w W lb fb eb o n xs S ⟨s.tm, fun i => if i = k then t else s.last i, fun i => if i = k then s.q k ++ [(b, t)] else s.q i⟩ v Aq cq → D W) := Lib.hid (by rw [hD]; exact HF.out)
  rw [show (fun (e : Ending) (w' : World) => e = .returned (.tuple #[]) ∧ LkE w w' lb fb eb o n xs S (s.come (uW xs) k b)) = fun e w' => e = .returned (.tuple #[]) ∧ D w' by rw [hD]]
  clear h hR hL h2 h3 h5 h6 htag ht HF hD
  generalize fn xs k = wk at *
  generalize s.tm = tm at *
  go_enter Try.func25, Try.ntmps25
  go_upto_region 0 with fail
  go_region
  all_goals
    have HQ := Lib.hid HP.out.drew
    have q0 : (s.q k).length ≤ 100000 := by omega
    clear HP f0 f1 fz
    generalize (wr.setCell ⟨fb, k * 3 + 1, none⟩ (.int .i64 t)).drew = w1 at *
    obtain ⟨A, c, W, hrun, s0, s1, hP⟩ := HQ.out.drew.pushQ hk b t q0
    have f2 := HQ.out.f2 hk
    have f1 := HQ.out.f1 hk
    dsimp only at f1 f2 hrun s0 hP
    rw [if_pos rfl] at f1
    have HRUN := Lib.hid hrun
    have HZ := Lib.hid (HD.out _ _ _ _ hP)
    have hl2 := HQ.out.flows.lt
    clear hrun hP HQ HD q0 e1 e2
    generalize Aq k = A0 at *
    generalize cq k = c0 at *
    generalize (s.q k).length = ln at *
    generalize s.last k = la at *
    go_upto_region 1 with fail
    go_region_law (refine step_append_g rfl (.tmp 27) (.tmp 34) 58 rfl (by rfl) (by rfl) (HRUN.out _) ?_)
    all_goals
      go_wp2_with fail
      all_goals
        go_end0
        exact ⟨rfl, HZ.out⟩
theorem size_packet : (Try.prog.info? 69).map (·.size) = some 2 := by kernel_rfl
set_option maxRecDepth 100000 in
set_option maxHeartbeats 8000000 in
theorem take_any {w wr : World} {lb fb eb n : Nat} {o : Obj} {xs : List Int} {S : List (Nat × Int)} {s : Sc} (h : LkE w wr lb fb eb o n xs S s) {k : Nat} (hk : k < n) {b g : Int} {r : List (Int × Int)} (hq : s.q k = (b, g) :: r) :
    Calls Try.prog 27 #[.pointer (some ⟨fb, k * 3, none⟩)] wr fun e w' => e = .returned (.agg #[.int .i64 b, .int .i64 g]) ∧ LkE w w' lb fb eb o n xs S ⟨s.tm, s.last, fun i => if i = k then r else s.q i⟩ := by
  obtain ⟨v, Aq, cq, h⟩ := h
  have hlt := h.flows.lt
  have f2 := h.f2 hk
  have fz := h.ffz (k * 3 + 2)
  obtain ⟨gb, off, A, c, e, hb, hg, hsl, hP⟩ := h.popQ hk hq
  have hgl : gb < wr.heap.size := ((h.own k hk).1.ab gb ⟨_, e, rfl⟩).2
  rw [hq, e, List.length_cons] at f2
  have HQ : Hid (∀ o1 o2, LkE w (((wr.setCell ⟨fb, k * 3 + 2, none⟩ (.slice A r.length c)).alloc o1).alloc o2) lb fb eb o n xs S ⟨s.tm, s.last, fun i => if i = k then r else s.q i⟩) := Lib.hid (fun o1 o2 =>
    ⟨_, _, _, hP.later (((Below.refl _ _).alloc (Nat.le_refl _) o1).alloc (by simp) o2)⟩)
  have HN : Hid ((((wr.setCell ⟨fb, k * 3 + 2, none⟩ (.slice A r.length c)).alloc (.cells #[.int .i64 b, .int .i64 g] 69)).alloc (.cells #[.int .i64 b, .int .i64 g] 69)).heap[wr.heap.size]? = some (.cells #[.int .i64 b, .int .i64 g] 69 (0, 0))) := Lib.hid (by
    have e1 : (wr.setCell ⟨fb, k * 3 + 2, none⟩ (.slice A r.length c)).heap.size = wr.heap.size := by simp [World.setCell]
    have h1 := heap_alloc_new (wr.setCell ⟨fb, k * 3 + 2, none⟩ (.slice A r.length c)) (.cells #[.int .i64 b, .int .i64 g] 69)
    rw [e1] at h1
    exact (heap_alloc_old _ _ (by simp [World.setCell])).trans h1)
  clear h hP hq e
  generalize cq k = c0 at *
  generalize r.length = m at *
  go_enter Try.func27, Try.ntmps27
  go_wp2_with fail
  exact bodyPost_ret_by (results_cell_row rfl _ _ wr.heap.size 69 _ (0, 0) _ rfl HN.out Try.underlying69 rfl size_packet) rfl ⟨rfl, HQ.out _ _⟩
end Go.Proofs.Ytobkepipmmkboaa
