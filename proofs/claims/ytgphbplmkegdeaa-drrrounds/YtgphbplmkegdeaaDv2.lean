/- Package drr: serve. -/
import Derived.Test.YtgphbplmkegdeaaDv1
namespace Go.Proofs.Ytgphbplmkegdeaa
open Go.RowKit Go.Maps

theorem wrap_in {x : Int} (h0 : -9223372036854775808 ≤ x) (h1 : x ≤ 9223372036854775807) : IntKind.i64.wrap x = x := by
  rw [IntKind.wrap_i64]
  omega
/-- What serve leaves. -/
def Served (w : World) (B sb lb n : Nat) (CB : Option Addr) (cc : Nat) (S : List (Nat × Int)) (L : Nat → List Int) (C : List Int) (e : Ending) (w' : World) : Prop := e = .returned (.tuple #[]) ∧ Sv w w' B sb lb n CB cc S L C

set_option maxRecDepth 100000 in
set_option maxHeartbeats 16000000 in
theorem serve_any {w wr : World} {B sb lb n : Nat} {CB : Option Addr} {cc : Nat} {S : List (Nat × Int)} {L : Nat → List Int} {C : List Int} (h : Sv w wr B sb lb n CB cc S L C) {k : Nat} (hk : k < n) (_hn : n ≤ 16) {t : Int} (ht : 0 ≤ t ∧ t ≤ 10000) (hc : 0 ≤ fn C k ∧ fn C k ≤ 1499) (hL : (L k).length ≤ 400)
    (hp : ∀ p ∈ L k, 1 ≤ p ∧ p ≤ 1500) {done rest : List Int} {c : Int} (hd : drv (fn C k + t) (L k) = (done, rest, c)) (hS : (S ++ done.map fun b => (k, b)).length ≤ 6400) :
    Calls Try.prog 33 #[.pointer (some ⟨sb, 0, none⟩), .int .i64 (k : Int), .int .i64 t] wr (Served w B sb lb n CB cc (S ++ done.map fun b => (k, b)) (fun j => if j = k then rest else L j) (C.set k (if rest = [] then 0 else c))) := by
  have c1 := h.c1
  have c2 := h.c2
  obtain ⟨A0, cp0, q0, -, hF0, hA0⟩ := h.queue hk
  obtain ⟨gc, oc, rfl, p0, -⟩ := h.purse hk
  obtain ⟨c0, hc0⟩ : ∃ c0, fn C k + t = c0 := ⟨_, rfl⟩
  rw [hc0] at hd
  have e0 : IntKind.i64.wrap (fn C k + t) = c0 := by rw [wrap_in (by omega) (by omega), hc0]
  have hcb : 0 ≤ c0 ∧ c0 ≤ 11499 := by omega
  have k1 : (k : Int) < (n : Int) := by omega
  have HX := Lib.hid (And.intro h (And.intro hF0 hA0))
  have HLK : Hid (∀ dn rs cr, Part c0 (L k) dn rs cr → (S ++ dn.map fun b => (k, b)).length ≤ 6400 ∧ rs.length ≤ 400 ∧ ∀ p ∈ rs, 1 ≤ p ∧ p ≤ 1500) := Lib.hid (fun dn rs cr hq => by
    have h1 := hq.pre
    have h2 := hq.all
    rw [hd] at h1
    dsimp only at h1
    simp only [List.length_append, List.length_map] at hS ⊢
    refine ⟨by omega, ?_, fun p hpp => hp p (by rw [← h2]; exact List.mem_append_right _ hpp)⟩
    have := congrArg List.length h2
    rw [List.length_append] at this
    omega)
  have HEND : Hid (∀ dn rs cr, Part c0 (L k) dn rs cr → (∀ p r, rs = p :: r → cr < p) → dn = done ∧ rs = rest ∧ cr = c) := Lib.hid (fun dn rs cr h1 h2 => by
    have := h1.stop h2
    rw [hd] at this
    simp only [Prod.mk.injEq] at this
    exact ⟨this.1.symm, this.2.1.symm, this.2.2.symm⟩)
  have HD : Hid (∀ W, Sv w W B sb lb n (some ⟨gc, oc, none⟩) cc (S ++ done.map fun b => (k, b)) (fun j => if j = k then rest else L j) (C.set k (if rest = [] then 0 else c)) → Served w B sb lb n (some ⟨gc, oc, none⟩) cc (S ++ done.map fun b => (k, b)) (fun j => if j = k then rest else L j) (C.set k (if rest = [] then 0 else c)) (.returned (.tuple #[])) W) := Lib.hid (fun W h => ⟨rfl, h⟩)
  generalize Served w B sb lb n (some ⟨gc, oc, none⟩) cc (S ++ done.map fun b => (k, b)) (fun j => if j = k then rest else L j) (C.set k (if rest = [] then 0 else c)) = DD at *
  clear h hF0 hA0 hp hd hS hc ht hL hc0
  generalize fn C k = m0 at *
  go_enter Try.func33, Try.ntmps33
  go_upto_region 0 with fail
  go_quiet (fail)
  clear c1 c2 q0 p0 e0
  have HZ0 := Lib.hid (And.intro (HX.out.1.drewN nq) (And.intro (HX.out.2.1.below (below_drewN (Below.refl _ _) nq)) HX.out.2.2))
  generalize wr.drewN nq = w0 at *
  obtain ⟨zl, hzl⟩ : ∃ zl, (L k).length = zl := ⟨_, rfl⟩
  have HZL := Lib.hid hzl
  rw [hzl]
  clear HX hzl
  go_wp2_with fail
  go_loopg [6, 7] zl (fun z l d wi => ∃ (dn rs : List Int) (cr : Int) (A : Option Addr) (cp : Nat), l = .slice A rs.length cp ∧ d = .int .i64 cr ∧ rs.length = z ∧ Hid (Part c0 (L k) dn rs cr ∧ Sv w wi B sb lb n (some ⟨gc, oc, none⟩) cc (S ++ dn.map fun b => (k, b)) L C ∧ Fifo w.heap.size wi A rs cp ∧ (∀ g, Ab A g → g < B ∧ g ≠ sb ∧ g ≠ lb ∧ ¬ Ab (some ⟨gc, oc, none⟩) g) ∧ 0 ≤ cr ∧ cr ≤ 11499))
  case atStart => exact ⟨[], L k, c0, A0, cp0, by rw [HZL.out], rfl, HZL.out, Lib.hid ⟨Part.start _ _, by rw [List.map_nil, List.append_nil]; exact HZ0.out.1, HZ0.out.2.1, HZ0.out.2.2, hcb.1, hcb.2⟩⟩
  case round =>
    clear HZ0 HZL hcb
    obtain ⟨dn, rs, cr, A, cp, rfl, rfl, hz, HI⟩ := hrel
    cases rs with
    | nil =>
      obtain rfl : 0 = gk := hz
      obtain ⟨rfl, rfl, rfl⟩ := HEND.out _ _ _ HI.out.1 (fun p r e => by cases e)
      have c1 := HI.out.2.1.c1
      have c2 := HI.out.2.1.c2
      obtain ⟨Aq, cq, q0, q1, -, -⟩ := HI.out.2.1.queue hk
      obtain ⟨gd, od, ed, p0, p1⟩ := HI.out.2.1.purse hk
      injection ed with ed
      simp only [Addr.mk.injEq, and_true] at ed
      obtain ⟨rfl, rfl⟩ := ed
      have n1 : ¬ gc = lb := (HI.out.2.1.cab gc ⟨_, rfl, rfl⟩).2.2
      have n2 : ¬ lb = gc := fun e => n1 e.symm
      have h1 := HI.out.2.1.drew.putL hk (HI.out.2.2.1.below (Below.refl _ _).drew) HI.out.2.2.2.1
      have h2 := h1.1.putC hk 0 rfl
      have h3 := HI.out.2.1.drew.putC hk 0 rfl
      have h4 := h3.1.putL hk ((HI.out.2.2.1.below (Below.refl wr.heap.size wr).drew).of_blocks h3.2.1 fun g hg _ => h3.2.2 g (fun e => (HI.out.2.2.2.1 g hg).2.2.2 (e ▸ ⟨_, rfl, rfl⟩))) HI.out.2.2.2.1
      have HZ1 := Lib.hid (HD.out _ (by rw [if_pos rfl]; exact h2.1))
      have HZ2 := Lib.hid (HD.out _ (by rw [if_pos rfl]; exact h4.1))
      clear h1 h2 h3 h4 HI HEND HLK HD
      rw [List.length_nil] at HZ1 HZ2
      go_upto_region 7 with fail
      go_region
      all_goals
        go_wp2_with fail
        go_end0
        first | exact HZ1.out | exact HZ2.out
    | cons p r =>
      obtain ⟨z, rfl⟩ : ∃ z, gk = z + 1 := ⟨r.length, hz.symm⟩
      have hz : r.length = z := by simpa using hz
      obtain ⟨g1, o1, A', cp', rfl, hx, hsl, hf, hab⟩ := HI.out.2.2.1.tail_run
      have hpb := (HLK.out _ _ _ HI.out.1).2.2 p (by simp)
      rw [List.length_cons, hz]
      rw [hz] at hsl
      have z1 : (0 : Int) < ((z + 1 : Nat) : Int) := by omega
      by_cases hcr : p ≤ cr
      · have hcd : decide (p ≤ cr) = true := decide_eq_true hcr
        have e1 : IntKind.i64.wrap (cr - p) = cr - p := wrap_in (by have := HI.out.2.2.2.2; omega) (by have := HI.out.2.2.2.2; omega)
        obtain ⟨v, Av, nv, cv, W, hv, hrun, s0, s1, hbw, hsv, hsz, hbl⟩ := HI.out.2.1.drew.push k p (by have := (HLK.out _ _ _ HI.out.1).1; omega)
        have hv : wr.cell? ⟨sb, 0, none⟩ = some v := hv
        have HRUN := Lib.hid hrun
        have l1 : sb < wr.heap.size := Nat.lt_of_lt_of_le HI.out.2.1.far.2.1 HI.out.2.1.mark
        have l2 : g1 < wr.heap.size := (HI.out.2.2.1.ab g1 ⟨_, rfl, rfl⟩).2
        have hx' : W.cell? ⟨g1, o1, none⟩ = some (.int .i64 p) := by
          rw [← hx]
          exact World.cell?_of_block (hbw.block g1 (HI.out.2.2.2.1 g1 ⟨_, rfl, rfl⟩).1)
        have HX5 : Hid ((W.setCell ⟨sb, 0, none⟩ (.slice Av nv cv)).cell? ⟨g1, o1, none⟩ = some (.int .i64 p)) := Lib.hid (by
          rw [← hx]
          exact World.cell?_of_block (hbl g1 (HI.out.2.2.2.1 g1 ⟨_, rfl, rfl⟩).1 (HI.out.2.2.2.1 g1 ⟨_, rfl, rfl⟩).2.1))
        have HZ := Lib.hid hz
        have HM : Hid (Part c0 (L k) (dn ++ [p]) r (cr - p) ∧ Sv w (W.setCell ⟨sb, 0, none⟩ (.slice Av nv cv)) B sb lb n (some ⟨gc, oc, none⟩) cc (S ++ (dn ++ [p]).map fun b => (k, b)) L C ∧ Fifo w.heap.size (W.setCell ⟨sb, 0, none⟩ (.slice Av nv cv)) A' r cp' ∧ (∀ g, Ab A' g → g < B ∧ g ≠ sb ∧ g ≠ lb ∧ ¬ Ab (some ⟨gc, oc, none⟩) g) ∧ 0 ≤ cr - p ∧ cr - p ≤ 11499) := Lib.hid (by
          refine ⟨HI.out.1.next hcr, by rw [List.map_append, ← List.append_assoc]; exact hsv, hf.of_blocks hsz fun g hg _ => ?_, fun g hg => HI.out.2.2.2.1 g (hab g hg), by omega, by have := HI.out.2.2.2.2; omega⟩
          exact hbl g (HI.out.2.2.2.1 g (hab g hg)).1 (HI.out.2.2.2.1 g (hab g hg)).2.1)
        clear hrun hbw hsv hsz hbl hf hab HI HLK HEND hcr hz hpb
        go_upto_region 2 with fail
        go_region_law (refine step_append_g rfl (.tmp 38) (.tmp 44) 24 rfl (by rfl) (by rfl) (HRUN.out _) ?_)
        all_goals
          clear s0 s1 hv hx hx' l1 l2 HRUN
          have hx5 := HX5.out
          clear HX5
          generalize W.setCell ⟨sb, 0, none⟩ (.slice Av nv cv) = w5 at *
          go_wp2_with fail
          go_roundg z
          case measure => omega
          case rel => exact ⟨dn ++ [p], r, cr - p, A', cp', by rw [HZ.out], rfl, HZ.out, HM⟩
      · skip
        obtain ⟨rfl, rfl, rfl⟩ := HEND.out _ _ _ HI.out.1 (fun p2 r2 e => by injection e with e1 e2; subst e1; omega)
        have c1 := HI.out.2.1.c1
        have c2 := HI.out.2.1.c2
        obtain ⟨Aq, cq, q0, q1, -, -⟩ := HI.out.2.1.queue hk
        obtain ⟨gd, od, ed, p0, p1⟩ := HI.out.2.1.purse hk
        injection ed with ed
        simp only [Addr.mk.injEq, and_true] at ed
        obtain ⟨rfl, rfl⟩ := ed
        have n1 : ¬ gc = lb := (HI.out.2.1.cab gc ⟨_, rfl, rfl⟩).2.2
        have n2 : ¬ lb = gc := fun e => n1 e.symm
        have h1 := HI.out.2.1.drew.putL hk (HI.out.2.2.1.below (Below.refl _ _).drew) HI.out.2.2.2.1
        have h2 := h1.1.putC hk cr rfl
        have h3 := HI.out.2.1.drew.putC hk cr rfl
        have h4 := h3.1.putL hk ((HI.out.2.2.1.below (Below.refl wr.heap.size wr).drew).of_blocks h3.2.1 fun g hg _ => h3.2.2 g (fun e => (HI.out.2.2.2.1 g hg).2.2.2 (e ▸ ⟨_, rfl, rfl⟩))) HI.out.2.2.2.1
        have HZ1 := Lib.hid (HD.out _ (by rw [if_neg (by simp)]; exact h2.1))
        have HZ2 := Lib.hid (HD.out _ (by rw [if_neg (by simp)]; exact h4.1))
        clear h1 h2 h3 h4 HI HEND HLK HD
        rw [List.length_cons, hz] at HZ1 HZ2
        have hcd : decide (p ≤ cr) = false := decide_eq_false hcr
        clear hcr hsl hf hab hpb hz
        go_upto_region 7 with fail
        clear hx
        go_region
        all_goals
          go_wp2_with fail
          go_end0
          first | exact HZ1.out | exact HZ2.out
end Go.Proofs.Ytgphbplmkegdeaa
