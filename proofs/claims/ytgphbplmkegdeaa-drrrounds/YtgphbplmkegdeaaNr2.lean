/- The reference's NRounds: a contract. -/
import Derived.Test.YtgphbplmkegdeaaNr1
import Derived.Test.YtgphbplmkegdeaaDlM
namespace Go.Proofs.Ytgphbplmkegdeaa
open Go.RowKit Go.Maps

/-- What NRounds answers. -/
def NOut (w : World) (S : List (Nat × Int)) (L : List (List Int)) (C : List Int) (e : Ending) (w' : World) : Prop :=
  ∃ A cA B cB D cD, e = .returned (.tuple #[.slice A S.length cA, .slice B L.length cB, .slice D C.length cD]) ∧ SentIn w' A S ∧ ListsIn w' B L ∧ IntsIn w' D C ∧ Below w.heap.size w w'
theorem results_three {fn : Func} (a b c : Tmp) (h : fn.results = #[.tmp a, .tmp b, .tmp c]) (tmps : Array Value) (w : World) :
    (results fn tmps).run Try.prog w = .ok (.tuple #[tmps.getD a undef, tmps.getD b undef, tmps.getD c undef]) w := by
  simp only [results, h]
  simp
/-- 'l[p:]'. -/
theorem tail_any {w : World} {A : Option Addr} {l : List Int} (h : IntsIn w A l) {p c : Nat} (hp : p ≤ l.length) (hc : l.length ≤ c) :
    ∃ A2 c2, (∀ W : World, (Instr.slice 22 (.slice A l.length c) (some (.int .i64 (p : Int))) none none).run Try.prog W = .ok (.slice A2 (l.drop p).length c2) W) ∧ IntsIn w A2 (l.drop p) ∧ (l.drop p).length ≤ c2 := by
  refine ⟨if c = p then A else A.map (·.add (p * 1)), c - p, fun W => ?_, ⟨fun h0 => ?_, by have := h.len; rw [List.length_drop]; omega⟩, by rw [List.length_drop]; omega⟩
  · rw [run_slice_l (P := Try.prog) W 22 A l.length c elem_ints .i64 (p : Int) (by omega) (by omega), size_ints, List.length_drop]
    simp [Result.andThen, sliced]
  · rw [List.length_drop] at h0
    obtain ⟨b, off, rfl, hl, hcell⟩ := h.at_ (by omega)
    have hadd : (⟨b, off, none⟩ : Addr).add (p * 1) = ⟨b, off + p, none⟩ := by unfold Addr.add; split <;> simp_all
    rw [if_neg (by omega)]
    refine ⟨b, off + p, by rw [Option.map_some, hadd], hl, fun j x hx => ?_⟩
    rw [List.getElem?_drop] at hx
    rw [Nat.add_assoc]
    exact hcell _ _ hx
/-- After r rounds and k flows. -/
def Nw (xs : List Int) (fs : List (List Int)) (ms : List Int) (w wr : World) (B ga : Nat) (YA : Option Addr) (yc : Nat) (v : Value) (r k : Nat) : Prop := Nv w wr B ga xs.length YA yc v (aS xs fs ms r k) (fun j => (aD xs fs ms r k j).1.length) (aC xs fs ms r k)
/-- In a flow's turn. -/
def Nm (xs : List Int) (fs : List (List Int)) (ms : List Int) (w wr : World) (B ga : Nat) (YA : Option Addr) (yc : Nat) (v : Value) (r k : Nat) (dn : List Int) (cr : Int) : Prop :=
  Nv w wr B ga xs.length YA yc v (aS xs fs ms r k ++ dn.map fun b => (k, b)) (fun j => if j = k then (fD xs fs ms r k).1.length + dn.length else (aD xs fs ms r k j).1.length) ((aC xs fs ms r k).set k cr)
section
variable {xs : List Int} {fs : List (List Int)} {ms : List Int} {w wr W : World} {B ga : Nat} {YA : Option Addr} {yc : Nat} {v : Value} {r k : Nat} {dn : List Int} {cr : Int}
theorem Nw.turn (h : Nw xs fs ms w wr B ga YA yc v r xs.length) : Nw xs fs ms w wr B ga YA yc v (r + 1) 0 := by
  unfold Nw at *
  rw [aS_end, aC_end] at h
  exact h.congr fun j hj => by rw [aD_end xs fs ms r j hj]
theorem Nw.begin (h : Nw xs fs ms w wr B ga YA yc v r k) (hk : k < xs.length) {g off : Nat} (e : YA = some ⟨g, off, none⟩) (c0 : Int) : Nm xs fs ms w (wr.setCell ⟨g, off + k, none⟩ (.int .i64 c0)) B ga YA yc v r k [] c0 := by
  unfold Nm
  rw [List.map_nil, List.append_nil]
  refine (Nv.putY h hk c0 e).congr fun j _ => ?_
  by_cases c : j = k
  · subst c
    rw [if_pos rfl, aD_here]
    rfl
  · rw [if_neg c]
theorem Nm.zero (h : Nm xs fs ms w wr B ga YA yc v r k dn cr) (hk : k < xs.length) {g off : Nat} (e : YA = some ⟨g, off, none⟩) : Nm xs fs ms w (wr.setCell ⟨g, off + k, none⟩ (.int .i64 0)) B ga YA yc v r k dn 0 := by
  have h1 := Nv.putY h hk 0 e
  rw [List.set_set] at h1
  exact h1
theorem Nm.pay (h : Nm xs fs ms w wr B ga YA yc v r k dn cr) (hk : k < xs.length) {g off : Nat} (e : YA = some ⟨g, off, none⟩) (x : Int) : Nv w (wr.setCell ⟨g, off + k, none⟩ (.int .i64 x)) B ga xs.length YA yc v (aS xs fs ms r k ++ dn.map fun b => (k, b)) (fun j => if j = k then (fD xs fs ms r k).1.length + dn.length else (aD xs fs ms r k j).1.length) ((aC xs fs ms r k).set k x) := by
  have h1 := Nv.putY h hk x e
  rw [List.set_set] at h1
  exact h1
theorem Nm.finish (h : Nm xs fs ms w wr B ga YA yc v r k dn cr) (hk : k < xs.length) {rest : List Int} {c : Int} (hd : drv ((fD xs fs ms r k).2.2 + fn xs k) (fD xs fs ms r k).2.1 = (dn, rest, c)) (hc : cr = if rest = [] then 0 else c) : Nw xs fs ms w wr B ga YA yc v r (k + 1) := by
  obtain ⟨h1, -, h3⟩ := serve_step hk hd
  unfold Nm at h
  rw [h1, hc, h3] at h
  refine h.congr fun j _ => ?_
  by_cases e : j = k
  · subst e
    rw [if_pos rfl, show aD xs fs ms r (j + 1) j = fD xs fs ms (r + 1) j from if_pos (by omega), (fD_turn hd).2, List.length_append]
  · rw [if_neg e]
    unfold aD
    by_cases d : j < k
    · rw [if_pos d, if_pos (by omega)]
    · rw [if_neg d, if_neg (by omega)]
theorem nw_start (hC : Cred xs.length ms) (h : Nv w W B ga xs.length YA yc v [] (fun _ => 0) ms) : Nw xs fs ms w W B ga YA yc v 0 0 := by
  unfold Nw
  have e : aC xs fs ms 0 0 = ms := by
    apply List.ext_getElem?
    intro j
    unfold aC
    rw [List.getElem?_map]
    by_cases c : j < xs.length
    · rw [List.getElem?_range c, at_fn (xs := ms) (by rw [hC.len]; exact c)]
      show some (aD xs fs ms 0 0 j).2.2 = _
      rw [aD_start]
      rfl
    · rw [List.getElem?_eq_none (by simpa using c), List.getElem?_eq_none (by rw [hC.len]; omega)]
      rfl
  rw [e]
  exact h.congr fun j _ => by rw [aD_start]; rfl
end

set_option maxRecDepth 100000 in
set_option maxHeartbeats 16000000 in
theorem nrounds_any {w : World} {P Q M : Option Addr} {xs : List Int} {fs : List (List Int)} {ms : List Int} (hx : IntsIn w P xs) (hy : ListsIn w Q fs) (hm : IntsIn w M ms) (hR : Right xs fs) (hC : Cred xs.length ms) (cx cy cm : Nat) {R : Nat} (hRb : R ≤ 400) :
    Calls Try.prog 15 #[.slice P xs.length cx, .slice Q xs.length cy, .slice M xs.length cm, .int .i64 (R : Int)] w (NOut w (outS xs fs ms R) (outL xs fs ms R) (outC xs fs ms R)) := by
  obtain ⟨n, hn⟩ : ∃ n, xs.length = n := ⟨_, rfl⟩
  have h16 : n ≤ 16 := by rw [← hn]; exact hR.few
  have HX := Lib.hid (And.intro hR (And.intro hC (And.intro hn hR.len)))
  have HPX := Lib.hid (fun W (hW : Below w.heap.size w W) => hx.below hW)
  have HPY := Lib.hid (fun W (hW : Below w.heap.size w W) => hy.below hW)
  have hmk := run_make_row' (P := Try.prog) 22 3 (.int .i64 0) 8 Try.underlying22 (by kernel_rfl) rfl .i64 .i64 n (by omega) (by omega)
  have HZ : Hid (∀ W A cA B cB D cD, SentIn W A (outS xs fs ms R) → ListsIn W B (outL xs fs ms R) → IntsIn W D (outC xs fs ms R) → Below w.heap.size w W → NOut w (outS xs fs ms R) (outL xs fs ms R) (outC xs fs ms R) (.returned (.tuple #[.slice A (outS xs fs ms R).length cA, .slice B n cB, .slice D n cD])) W) := Lib.hid (fun W A cA B cB D cD h1 h2 h3 h4 => ⟨A, cA, B, cB, D, cD, by rw [outL_length, outC_length, hn], h1, h2, h3, h4⟩)
  generalize NOut w (outS xs fs ms R) (outL xs fs ms R) (outC xs fs ms R) = DD at *
  have HST : ∃ A' cap' W, (∀ ty, (Builtin.append_ #[22, 22] ty #[.slice (some ⟨w.heap.size + 1, 0, none⟩) 0 0, .slice M n cm]).run Try.prog ((w.alloc (.cells (madeCells #[.int .i64 0] n) 3)).alloc (.cells #[] 3)) = .ok (.slice A' n cap') W) ∧ Nw xs fs ms w W W.heap.size w.heap.size A' cap' (.slice none 0 0) 0 0 := by
    have s1 : (w.alloc (.cells (madeCells #[.int .i64 0] n) 3)).heap.size = w.heap.size + 1 := by simp
    have b1 : Below w.heap.size w (w.alloc (.cells (madeCells #[.int .i64 0] n) 3)) := (Below.refl _ _).alloc (Nat.le_refl _) _
    have b2 : Below (w.heap.size + 1) (w.alloc (.cells (madeCells #[.int .i64 0] n) 3)) ((w.alloc (.cells (madeCells #[.int .i64 0] n) 3)).alloc (.cells #[] 3)) := (Below.refl _ _).alloc (by rw [s1]; exact Nat.le_refl _) _
    have s2 : ((w.alloc (.cells (madeCells #[.int .i64 0] n) 3)).alloc (.cells #[] 3)).heap.size = w.heap.size + 1 + 1 := by simp
    have r1 := (World.rowIs_made w (.int .i64 0) n 3).of_block (b2.block w.heap.size (by omega))
    obtain ⟨A', cap', W, hr, hf, hc, hab⟩ := fifo_app (Fifo.empty (B := w.heap.size + 1) ((w.alloc (.cells (madeCells #[.int .i64 0] n) 3)).alloc (.cells #[] 3)) (w.heap.size + 1) (Nat.le_refl _) (by omega)) ((hm.below b1).below (by rw [s1]; exact b2)) cm (by omega) (by rw [hC.len]; simp; omega)
    rw [hC.len, hn] at hr
    simp only [List.length_nil, Nat.zero_add, List.nil_append] at hr hf
    refine ⟨A', cap', W, hr, nw_start hC ?_⟩
    have hW : Below (w.heap.size + 1) ((w.alloc (.cells (madeCells #[.int .i64 0] n) 3)).alloc (.cells #[] 3)) W := hc.below (by omega) (fun g hg => by obtain ⟨a, e, rfl⟩ := hg; injection e with e; subst e; exact Nat.le_refl _)
    have r2 := r1.of_block (hW.block w.heap.size (by omega))
    refine ⟨(b1.trans (b2.mono (by omega))).trans (hW.mono (by omega)), Nat.le_refl _, ⟨Nat.le_refl _, r2.lt⟩, by rw [hn]; exact r2, hf.mono (by omega), hC.len, fun g hg => ⟨(hf.ab g hg).2, by have := (hf.ab g hg).1; omega⟩, OwnS.nil _ _⟩
  obtain ⟨YA, yc, W0, hrun, hst⟩ := HST
  have HR := Lib.hid hrun
  have HS0 := Lib.hid hst
  rw [hn]
  clear hx hy hm hR hC hn hrun hst
  go_enter Try.func15, Try.ntmps15
  go_upto_region 4 with (at_builtin; refine wpList_append_eq rfl (.tmp 22) (.tmp 23) 22 22 rfl rfl rfl (HR.out _) ?_)
  obtain ⟨ga, hga⟩ : ∃ ga, w.heap.size = ga := ⟨_, rfl⟩
  obtain ⟨Bm, hBm⟩ : ∃ Bm, W0.heap.size = Bm := ⟨_, rfl⟩
  rw [hga, hBm] at HS0
  rw [hga]
  clear hga hBm HR hmk
  go_wp2_with fail
  go_loopg [11, 26] R (fun z s c wi => ∃ (r : Nat) (vv : Value), vv = s ∧ c = .int .i64 (r : Int) ∧ r + z = R ∧ Hid (Nw xs fs ms w wi Bm ga YA yc vv r 0))
  case atStart => exact ⟨0, _, rfl, rfl, by omega, HS0⟩
  case round =>
    clear HS0
    obtain ⟨r, v, rfl, rfl, hrz, HI⟩ := hrel
    cases gk with
    | zero =>
      obtain rfl : r = R := by omega
      clear hrz
      obtain ⟨we, rfl⟩ : ∃ we, we = wr := ⟨_, rfl⟩
      go_wp2_with fail
      go_loopg [16, 111] n (fun y s c wi => ∃ (i : Nat) (vv : Value) (us : List Value), vv = s ∧ c = .int .i64 (i : Int) ∧ i + y = n ∧ Hid (OwnV we.heap.size wi vv us ∧ Tails w us (fun j => (fD xs fs ms r j).2.1) i ∧ Below we.heap.size we wi))
      case atStart => exact ⟨0, _, [], rfl, rfl, by omega, Lib.hid ⟨OwnV.nil _ _, ⟨rfl, fun j hj => absurd hj (by omega)⟩, Below.refl _ _⟩⟩
      case round =>
        have HW := Lib.hid HI.out
        obtain ⟨i, vv, us, rfl, rfl, hiy, HJ⟩ := hrel
        cases gk with
        | zero =>
          obtain rfl : i = n := by omega
          have HE : Hid (∃ A cA B cB, v = .slice A (outS xs fs ms r).length cA ∧ vv = .slice B i cB ∧ SentIn wr A (outS xs fs ms r) ∧ ListsIn wr B (outL xs fs ms r) ∧ IntsIn wr YA (outC xs fs ms r) ∧ Below w.heap.size w wr) := Lib.hid (by
            have hw := Nv.later HW.out HJ.out.2.2
            have h1 := hw.sent
            rw [aS_start] at h1
            obtain ⟨A, cA, e1, hA⟩ := h1.form
            have hL : (outL xs fs ms r).length = i := by rw [outL_length, HX.out.2.2.1]
            have hT : Tails wr us (fl (outL xs fs ms r)) i := ⟨HJ.out.2.1.1, fun j hj => by
              rw [outL_fl _ _ _ _ (by rw [HX.out.2.2.1]; exact hj)]
              obtain ⟨A, c, k1, k2, k3⟩ := HJ.out.2.1.2 j hj
              exact ⟨A, c, k1, k2.below hw.below, k3⟩⟩
            obtain ⟨B, cB, e2, hB⟩ := OwnV.lists HJ.out.1 hT hL h16
            have h3 := hw.yet
            rw [aC_start] at h3
            refine ⟨A, cA, B, cB, e1, by rw [e2, hL], hA, hB, h3.ints (by rw [outC_length, HX.out.2.2.1]; omega), hw.below⟩)
          obtain ⟨A, cA, B, cB, rfl, rfl, h1, h2, h3, h4⟩ := HE.out
          have HQ := Lib.hid (HZ.out _ A cA B cB YA yc h1 h2 h3 h4)
          clear h1 h2 h3 h4 HE HZ HX HPX HPY HI HW HJ
          generalize (outS xs fs ms r).length = sl at *
          go_wp2_with fail
          exact bodyPost_ret (results_three 8 9 10 rfl _ _) rfl HQ.out
        | succ y =>
          have hi : i < n := by omega
          have i1 : (i : Int) < (n : Int) := by omega
          have hw := Nv.later HW.out HJ.out.2.2
          obtain ⟨bq, oq, f, Bf, cf, rfl, hf, d0, hin, lq, hroom⟩ := (HPY.out w (Below.refl _ _)).next (i := i) (by rw [HX.out.2.2.2, HX.out.2.2.1]; exact hi)
          have d0 := (hw.below.cell (p := ⟨bq, oq + i, none⟩) lq).trans d0
          have hff := fl_at hf
          obtain ⟨d1, -⟩ := hw.seatA (k := i) (by rw [HX.out.2.2.1]; exact hi)
          rw [aD_start] at d1
          have hfl := fD_len (ms := ms) HX.out.1 r i
          have hdr := fD_drop xs fs ms r i
          rw [hff] at hfl hdr
          obtain ⟨A2, c2, hsl, ht1, ht2⟩ := tail_any (p := (fD xs fs ms r i).1.length) hin (by omega) hroom
          rw [← hdr] at hsl ht1 ht2
          have hplen : (fD xs fs ms r i).1.length ≤ f.length := by omega
          obtain ⟨v', W, hrun, ho, hb⟩ := lists_append HJ.out.1 HJ.out.2.1.one (.slice A2 (fD xs fs ms r i).2.1.length c2) rfl HJ.out.2.2.size (by rw [HJ.out.2.1.1]; omega)
          have HRUN := Lib.hid hrun
          have HQ : Hid (OwnV we.heap.size W v' (us ++ [.slice A2 (fD xs fs ms r i).2.1.length c2]) ∧ Tails w (us ++ [.slice A2 (fD xs fs ms r i).2.1.length c2]) (fun j => (fD xs fs ms r j).2.1) (i + 1) ∧ Below we.heap.size we W) := Lib.hid ⟨ho, HJ.out.2.1.next (Below.refl _ _) ht1 ht2, HJ.out.2.2.trans hb⟩
          have HIY := Lib.hid hiy
          clear hiy hrun ho hb hw lq hf hin hff hdr hfl ht1 ht2 hroom HJ HW HI HPX HPY HX HZ
          generalize (fD xs fs ms r i).2.1.length = lt at *
          generalize (fD xs fs ms r i).1.length = p at *
          generalize f.length = lf at *
          go_wp2_with (at_builtin; refine wpList_append_g rfl (.tmp 116) (.tmp 123) 23 23 rfl rfl rfl (HRUN.out _) ?_)
          go_roundg y
          case measure => omega
          case rel => exact ⟨i + 1, v', _, rfl, by go_num, by have := HIY.out; omega, HQ⟩
    | succ z =>
      have r1 : (r : Int) < (R : Int) := by omega
      have HRZ := Lib.hid hrz
      clear hrz HZ
      go_wp2_with fail
      go_loopg [11, 30] n (fun y s c wi => ∃ (k : Nat) (vv : Value), vv = s ∧ c = .int .i64 (k : Int) ∧ k + y = n ∧ Hid (Nw xs fs ms w wi Bm ga YA yc vv r k))
      case atStart => exact ⟨0, _, rfl, rfl, by omega, HI⟩
      case round =>
        clear HI
        obtain ⟨k, v, rfl, rfl, hky, HI⟩ := hrel
        cases gk with
        | zero =>
          obtain rfl : k = n := by omega
          have HT : Hid (Nw xs fs ms w wr Bm ga YA yc v (r + 1) 0) := Lib.hid (by
            have := HI.out
            rw [← HX.out.2.2.1] at this
            exact this.turn)
          clear HI HX HPX HPY hky
          go_wp2_with fail
          go_roundg z
          case measure => omega
          case rel => exact ⟨r + 1, v, rfl, by go_num, by have := HRZ.out; omega, HT⟩
        | succ y =>
          have hk : k < n := by omega
          have k1 : (k : Int) < (n : Int) := by omega
          have HKY := Lib.hid hky
          have hkx : k < xs.length := by rw [HX.out.2.2.1]; exact hk
          obtain ⟨bq, oq, f, Bf, cf, rfl, hf, d0, hin, lq, -⟩ := (HPY.out w (Below.refl _ _)).next (i := k) (by rw [HX.out.2.2.2]; exact hkx)
          obtain ⟨bp, op, t, rfl, ht, d1, lp⟩ := (HPX.out w (Below.refl _ _)).next (i := k) hkx
          have HD : Hid (∀ W, Below w.heap.size w W → W.cell? ⟨bq, oq + k, none⟩ = some (.slice Bf f.length cf) ∧ W.cell? ⟨bp, op + k, none⟩ = some (.int .i64 t) ∧ IntsIn W Bf f) := Lib.hid (fun W h => ⟨(h.cell (p := ⟨bq, oq + k, none⟩) lq).trans d0, (h.cell (p := ⟨bp, op + k, none⟩) lp).trans d1, hin.below h⟩)
          have hft := fn_at ht
          have hff := fl_at hf
          obtain ⟨gy, oy, rfl, ny, y0, y1⟩ := Nv.seatY HI.out hkx
          rw [aC_fn _ _ _ _ _ hkx, aD_here] at y0
          have cb := fD_cred HX.out.1 HX.out.2.1 r k
          have tb := HX.out.1.turn0 k
          rw [hft] at tb
          obtain ⟨c0, e0, hc0⟩ : ∃ c0, IntKind.i64.wrap ((fD xs fs ms r k).2.2 + t) = c0 ∧ c0 = (fD xs fs ms r k).2.2 + t := ⟨_, rfl, wrap_in (by omega) (by omega)⟩
          have hcb : 0 ≤ c0 ∧ c0 ≤ 11499 := by omega
          have HB9 : Hid (Nm xs fs ms w (wr.setCell ⟨gy, oy + k, none⟩ (.int .i64 c0)).drew Bm ga (some ⟨gy, oy, none⟩) yc v r k [] c0) := Lib.hid (Nv.drew (Nw.begin HI.out hkx rfl c0))
          obtain ⟨q0, q1, -⟩ := HD.out _ (Nv.below HI.out)
          have hfl := fD_len (ms := ms) HX.out.1 r k
          rw [hff] at hfl
          have HFF := Lib.hid (And.intro hft (And.intro hff (And.intro hc0 hfl)))
          obtain ⟨ll, hll⟩ : ∃ ll, f.length = ll := ⟨_, rfl⟩
          have HLL := Lib.hid hll
          rw [hll] at q0 HD
          have hl4 : ll ≤ 400 := by omega
          clear d0 d1 hin lq lp ht hf hft hff cb tb hc0 hfl hll HI hky
          generalize (fD xs fs ms r k).2.2 = m0 at y0 e0
          go_upto_region 9 with fail
          clear q0
          go_region
          all_goals
            clear y0 y1 q1 e0
            generalize (wr.setCell ⟨gy, oy + k, none⟩ (.int .i64 c0)).drew = w9 at *
            go_wp2_with fail
            go_loopg [11] (fD xs fs ms r k).2.1.length (fun x s wi => ∃ (dn rs : List Int) (cr : Int) (vv : Value), vv = s ∧ rs.length = x ∧ Hid (Part ((fD xs fs ms r k).2.2 + fn xs k) (fD xs fs ms r k).2.1 dn rs cr ∧ Nm xs fs ms w wi Bm ga (some ⟨gy, oy, none⟩) yc vv r k dn cr ∧ 0 ≤ cr ∧ cr ≤ 11499))
            case atStart => exact ⟨[], (fD xs fs ms r k).2.1, c0, _, rfl, rfl, Lib.hid ⟨by rw [HFF.out.1, ← HFF.out.2.2.1]; exact Part.start _ _, HB9.out, hcb.1, hcb.2⟩⟩
            case round =>
              clear HB9 hcb
              obtain ⟨dn, rs, cr, v, rfl, hrs, HI⟩ := hrel
              have hall : (fD xs fs ms r k).1 ++ (dn ++ rs) = f := by rw [HI.out.1.all, fD_split, HFF.out.2.1]
              obtain ⟨p, hp⟩ : ∃ p, (fD xs fs ms r k).1.length + dn.length = p := ⟨_, rfl⟩
              have hpl : p + rs.length = ll := by
                have := congrArg List.length hall
                rw [List.length_append, List.length_append, HLL.out] at this
                omega
              have HP := Lib.hid hp
              have HM : Hid (∀ W, Nm xs fs ms w W Bm ga (some ⟨gy, oy, none⟩) yc v r k dn cr → (W.cell? ⟨ga, k, none⟩ = some (.int .i64 (p : Int)) ∧ W.frozen? ⟨ga, k, none⟩ = false) ∧ W.cell? ⟨gy, oy + k, none⟩ = some (.int .i64 cr) ∧ W.frozen? ⟨gy, oy + k, none⟩ = false) := Lib.hid (fun W h => by
                obtain ⟨a0, a1⟩ := Nv.seatA h hkx
                rw [if_pos rfl, hp] at a0
                obtain ⟨g', o', e, -, b0, b1⟩ := Nv.seatY h hkx
                injection e with e
                simp only [Addr.mk.injEq, and_true] at e
                obtain ⟨rfl, rfl⟩ := e
                rw [fn_set (by rw [aC_length]; exact hkx), if_pos rfl] at b0
                exact ⟨⟨a0, a1⟩, b0, b1⟩)
              obtain ⟨⟨a0, a1⟩, b0, b1⟩ := HM.out _ HI.out.2.1
              cases rs with
              | nil =>
                obtain rfl : 0 = gk := hrs
                obtain rfl : p = ll := by simpa using hpl
                have HN := Lib.hid (fun q => Nm.zero (Nv.drewN HI.out.2.1 q) hkx rfl)
                have HF : Hid (∀ W, Nm xs fs ms w W Bm ga (some ⟨gy, oy, none⟩) yc v r k dn 0 → Nw xs fs ms w W Bm ga (some ⟨gy, oy, none⟩) yc v r (k + 1)) := Lib.hid (fun W h => h.finish hkx (rest := []) (c := cr) (HI.out.1.stop fun _ _ e => by cases e) (by rw [if_pos rfl]))
                have e1 : ((p : Int) == (p : Int)) = true := by simp
                clear hall hp hpl HM HI HD HFF HLL HP HX HPX HPY
                go_upto_region 10 with fail
                go_quiet (fail)
                have HQ := Lib.hid (HF.out _ (HN.out nq))
                clear HF HN
                go_wp2_with fail
                go_roundg y
                case measure => omega
                case rel => exact ⟨k + 1, v, rfl, by go_num, by have := HKY.out; omega, HQ⟩
              | cons x rs' =>
                obtain ⟨x0, rfl⟩ : ∃ z, gk = z + 1 := ⟨rs'.length, hrs.symm⟩
                have hrs : rs'.length = x0 := by simpa using hrs
                have HRS := Lib.hid hrs
                have hpx : f[p]? = some x := by
                  rw [← hall, List.getElem?_append_right (by omega), List.getElem?_append_right (by omega), ← hp, show (fD xs fs ms r k).1.length + dn.length - (fD xs fs ms r k).1.length - dn.length = 0 by omega]
                  rfl
                have p1 : (p : Int) < (ll : Int) := by rw [List.length_cons] at hpl; omega
                have p2 : p < ll := by omega
                have HXC : Hid (∀ W, Below w.heap.size w W → ∃ bl ol, Bf = some ⟨bl, ol, none⟩ ∧ W.cell? ⟨bl, ol + p, none⟩ = some (.int .i64 x)) := Lib.hid (fun W h => by
                  obtain ⟨bl, ol, x', e, h1, h2, -⟩ := (HD.out W h).2.2.next (i := p) (by rw [HLL.out]; exact p2)
                  rw [hpx] at h1
                  injection h1 with h1
                  subst h1
                  exact ⟨bl, ol, e, h2⟩)
                obtain ⟨bl, ol, rfl, x1⟩ := HXC.out _ (Nv.below HI.out.2.1)
                have HXC : Hid (∀ W, Below w.heap.size w W → W.cell? ⟨bl, ol + p, none⟩ = some (.int .i64 x)) := Lib.hid (fun W h => by
                  obtain ⟨b', o', e, h2⟩ := HXC.out W h
                  injection e with e
                  simp only [Addr.mk.injEq, and_true] at e
                  obtain ⟨rfl, rfl⟩ := e
                  exact h2)
                have hxb : 1 ≤ x ∧ x ≤ 1500 := (HX.out.1.flow k).2 x (by rw [HFF.out.2.1]; exact List.mem_of_getElem? hpx)
                by_cases hcr : x ≤ cr
                · have hcd : decide (x ≤ cr) = true := decide_eq_true hcr
                  have e1 : IntKind.i64.wrap (cr - x) = cr - x := wrap_in (by have := HI.out.2.2; omega) (by have := HI.out.2.2; omega)
                  have HPT : Hid (Part ((fD xs fs ms r k).2.2 + fn xs k) (fD xs fs ms r k).2.1 (dn ++ [x]) rs' (cr - x) ∧ 0 ≤ cr - x ∧ cr - x ≤ 11499) := Lib.hid ⟨HI.out.1.next hcr, by have := HI.out.2.2; omega⟩
                  have HSL : Hid ((aS xs fs ms r k ++ dn.map fun b => (k, b)).length ≤ 100000) := Lib.hid (by have := part_len HX.out.1 hkx HI.out.1; omega)
                  have HN0 := Lib.hid HI.out.2.1
                  clear hall hp hpl hrs hpx hcr hxb HI HD HX
                  go_upto_region 10 with fail
                  go_quiet (fail)
                  have HN1 : Hid (Nm xs fs ms w (wr.drewN nq) Bm ga (some ⟨gy, oy, none⟩) yc v r k dn cr) := Lib.hid (Nv.drewN HN0.out nq)
                  clear a0 a1 b0 b1 x1 HN0
                  generalize wr.drewN nq = w1 at *
                  obtain ⟨⟨a0, a1⟩, b0, b1⟩ := HM.out _ HN1.out
                  have x1 := HXC.out _ (Nv.below HN1.out)
                  obtain ⟨Av, nv, cv, W, hrun, hN⟩ := Nv.push HN1.out k x HSL.out
                  have HRUN := Lib.hid hrun
                  have HN2 := Lib.hid hN
                  clear hrun hN HSL
                  go_upto_region 12 with (at_builtin; refine wpList_append_g rfl (.tmp 66) (.tmp 76) 24 24 rfl rfl rfl (HRUN.out _) ?_)
                  clear a0 a1 b0 b1 x1 HRUN HN1
                  have HSA : Hid (∀ (W : World) (Y : List Int), Nv w W Bm ga xs.length (some ⟨gy, oy, none⟩) yc (.slice Av nv cv) ((aS xs fs ms r k ++ dn.map fun b => (k, b)) ++ [(k, x)]) (fun j => if j = k then (fD xs fs ms r k).1.length + dn.length else (aD xs fs ms r k j).1.length) Y → W.cell? ⟨ga, k, none⟩ = some (.int .i64 (p : Int)) ∧ W.frozen? ⟨ga, k, none⟩ = false) := Lib.hid (fun W Y h => by
                    obtain ⟨a0, a1⟩ := Nv.seatA h hkx
                    rw [if_pos rfl, HP.out] at a0
                    exact ⟨a0, a1⟩)
                  have hsy := fun (W : World) (Y : List Int) (h : Nv w W Bm ga xs.length (some ⟨gy, oy, none⟩) yc (.slice Av nv cv) ((aS xs fs ms r k ++ dn.map fun b => (k, b)) ++ [(k, x)]) (fun j => if j = k then (fD xs fs ms r k).1.length + dn.length else (aD xs fs ms r k j).1.length) Y) => Nv.seatY h hkx
                  obtain ⟨a0, a1⟩ := HSA.out _ _ HN2.out
                  obtain ⟨g', o', e, -, b0, b1⟩ := hsy _ _ HN2.out
                  injection e with e
                  simp only [Addr.mk.injEq, and_true] at e
                  obtain ⟨rfl, rfl⟩ := e
                  rw [fn_set (by rw [aC_length]; exact hkx), if_pos rfl] at b0
                  have x1 := HXC.out _ HN2.out.below
                  have HN3 := Lib.hid (Nv.drew (Nv.putY HN2.out hkx (cr - x) rfl))
                  clear hsy HN2 HM HXC
                  go_region
                  all_goals
                    clear a0 a1 b0 b1 x1 hcd e1
                    generalize (W.setCell ⟨gy, oy + k, none⟩ (.int .i64 (cr - x))).drew = w3 at *
                    obtain ⟨a0, a1⟩ := HSA.out _ _ HN3.out
                    have HN4 : Hid (Nm xs fs ms w (w3.setCell ⟨ga, k, none⟩ (.int .i64 ((p : Int) + 1))) Bm ga (some ⟨gy, oy, none⟩) yc (.slice Av nv cv) r k (dn ++ [x]) (cr - x)) := Lib.hid (by
                      have h := Nv.putA HN3.out k (p + 1)
                      rw [List.set_set, show ((p + 1 : Nat) : Int) = (p : Int) + 1 from rfl, List.append_assoc] at h
                      unfold Nm
                      rw [List.map_append]
                      refine h.congr fun j _ => ?_
                      by_cases c : j = k
                      · rw [if_pos c, if_pos c, List.length_append, ← HP.out]
                        rfl
                      · rw [if_neg c, if_neg c, if_neg c])
                    clear HSA HN3
                    have hp4 : p ≤ 400 := by omega
                    go_wp2_with fail
                    go_roundg x0
                    case measure => omega
                    case rel => exact ⟨dn ++ [x], rs', cr - x, _, rfl, HRS.out, Lib.hid ⟨HPT.out.1, HN4.out, HPT.out.2⟩⟩
                · have hcd : decide (x ≤ cr) = false := decide_eq_false hcr
                  have HQ := Lib.hid (fun q => Nm.finish (Nv.drewN HI.out.2.1 q) hkx (rest := x :: rs') (c := cr) (HI.out.1.stop fun _ _ e => by injection e with e1 e2; subst e1; omega) (by rw [if_neg (by simp)]))
                  have e1 : ((p : Int) == (ll : Int)) = false := by simp; omega
                  clear hall hp hpl hrs hpx hcr hxb HI HD HX HM HXC HFF HLL HP HPX HPY
                  go_upto_region 10 with fail
                  go_quiet (fail)
                  clear hcd b0 b1 x1
                  go_wp2_with fail
                  go_roundg y
                  case measure => omega
                  case rel => exact ⟨k + 1, v, rfl, by go_num, by have := HKY.out; omega, Lib.hid (HQ.out _)⟩
end Go.Proofs.Ytgphbplmkegdeaa
