/- Package drr: Round, Rounds. -/
import Derived.Test.YtgphbplmkegdeaaDv3
namespace Go.Proofs.Ytgphbplmkegdeaa
open Go.RowKit Go.Maps

/-- A service begins. -/
theorem sv_start {w W : World} {sb lb n : Nat} {CB : Option Addr} {cc : Nat} {L : Nat → List Int} {C : List Int} (hb : Below w.heap.size w W) (hc : Copies w W lb n L) (hf : Fifo w.heap.size W CB C cc) (hl : C.length = n)
    (hs : W.rowIs sb 49 3 (three (.slice none 0 0) (.slice (some ⟨lb, 0, none⟩) n n) (.slice CB n cc))) (h1 : w.heap.size ≤ sb) (h2 : sb ≠ lb) (h3 : ∀ g, Ab CB g → g ≠ sb ∧ g ≠ lb)
    (h4 : ∃ F, W.rowIs lb 22 n F ∧ ∀ j, j < n → ∃ A c, F j = .slice A (L j).length c ∧ Fifo w.heap.size W A (L j) c ∧ ∀ g, Ab A g → g ≠ lb ∧ g ≠ sb ∧ ¬ Ab CB g) :
    Sv w W W.heap.size sb lb n CB cc [] L C := by
  obtain ⟨F, r1, r2⟩ := h4
  refine ⟨hb, Nat.le_refl _, ⟨h1, hs.lt, hc.far, r1.lt, h2⟩, ⟨_, hs, OwnS.nil _ _⟩, ⟨F, r1, fun j hj => ?_⟩, hf, hl, fun g hg => ⟨(hf.ab g hg).2, h3 g hg⟩⟩
  obtain ⟨A, c, e, ha, hab⟩ := r2 j hj
  exact ⟨A, c, e, ha, fun g hg => ⟨(ha.ab g hg).2, (hab g hg).2.1, (hab g hg).1, (hab g hg).2.2⟩⟩

/-- What Round and Rounds answer. -/
def Out (w : World) (S : List (Nat × Int)) (L : List (List Int)) (C : List Int) (err : Int) (e : Ending) (w' : World) : Prop :=
  ∃ A cA B cB D cD, e = .returned (.tuple #[.slice A S.length cA, .slice B L.length cB, .slice D C.length cD, .int .i64 err]) ∧ SentIn w' A S ∧ ListsIn w' B L ∧ IntsIn w' D C ∧ Below w.heap.size w w' ∧ C.length ≤ cD
theorem out_none {w w' : World} {err : Int} (hb : Below w.heap.size w w') : Out w [] [] [] err (.returned (.tuple #[.slice none 0 0, .slice none 0 0, .slice none 0 0, .int .i64 err])) w' :=
  ⟨none, 0, none, 0, none, 0, rfl, SentIn.nil _ _, ListsIn.nil _ _, ⟨fun h => absurd h (by decide), by decide⟩, hb, Nat.le_refl _⟩
theorem At.out {xs : List Int} {fs : List (List Int)} {ms : List Int} {w wr : World} {B sb lb : Nat} {CB : Option Addr} {cc r : Nat} (h : At xs fs ms w wr B sb lb CB cc r 0) (hR : Right xs fs) {v : Value} (hv : wr.cell? ⟨sb, 0, none⟩ = some v) :
    Out w (outS xs fs ms r) (outL xs fs ms r) (outC xs fs ms r) 0 (.returned (.tuple #[v, .slice (some ⟨lb, 0, none⟩) xs.length xs.length, .slice CB xs.length cc, .int .i64 0])) wr := by
  obtain ⟨v', h1, h2⟩ := h.row
  have := h1.cell (i := 0) (by omega)
  rw [hv] at this
  injection this with this
  have this : v = v' := this
  subst this
  rw [aS_start] at h2
  obtain ⟨A, cA, rfl, hA⟩ := h2.form
  obtain ⟨F, h3, h4⟩ := h.left
  have h16 := hR.few
  have hc := h.cred
  rw [aC_start] at hc
  refine ⟨A, cA, _, _, CB, cc, by rw [outL_length, outC_length], hA, ⟨fun h0 => ⟨lb, 0, rfl, h3.lt, fun j f hf => ?_⟩, by rw [outL_length]; omega⟩, hc.ints (by rw [outC_length]; omega), h.below, hc.le⟩
  unfold outL at hf
  rw [List.getElem?_map, Option.map_eq_some_iff] at hf
  obtain ⟨i, hi, rfl⟩ := hf
  obtain ⟨hl, e⟩ := List.getElem?_eq_some_iff.1 hi
  rw [List.getElem_range] at e
  subst e
  rw [List.length_range] at hl
  obtain ⟨A2, c2, e2, hf2, -⟩ := h4 j hl
  have hd := fD_len (ms := ms) hR r j
  rw [aD_start] at e2 hf2
  rw [Nat.zero_add, h3.cell hl, e2]
  exact ⟨A2, c2, rfl, hf2.ints (by omega), hf2.le⟩

theorem results_four {fn : Func} (a b c d : Tmp) (h : fn.results = #[.tmp a, .tmp b, .tmp c, .tmp d]) (tmps : Array Value) (w : World) :
    (results fn tmps).run Try.prog w = .ok (.tuple #[tmps.getD a undef, tmps.getD b undef, tmps.getD c undef, tmps.getD d undef]) w := by
  simp only [results, h]
  simp
/-! ### what is made -/
/-- A block is a service. -/
def BoxAt (w : World) (g : Nat) (a b c : Value) : Prop := w.heap[g]? = some (.cells #[a, b, c] 49)
theorem BoxAt.lt {w : World} {g : Nat} {a b c : Value} (h : BoxAt w g a b c) : g < w.heap.size := (Array.getElem?_eq_some_iff.1 h).1
theorem BoxAt.below {w W : World} {g : Nat} {a b c : Value} (h : BoxAt w g a b c) (hb : Below w.heap.size w W) : BoxAt W g a b c := (hb.block g h.lt).trans h
theorem BoxAt.row {w : World} {g : Nat} {a b c : Value} (h : BoxAt w g a b c) : w.rowIs g 49 3 (three a b c) := by
  refine ⟨_, h, rfl, fun i hi => ?_⟩
  rcases (by omega : i = 0 ∨ i = 1 ∨ i = 2) with rfl | rfl | rfl <;> rfl
theorem info_service : (Try.prog.info? 49).map (·.size) = some 3 := by kernel_rfl
theorem wp_store_sv {o : Oper} {a : Act} {w : World} {K : Act → World → Prop} {Q : Exit → Act → World → Prop} (x y : Operand) (ho : o.op = .store 49 x y)
    (g : Nat) (A B C : Option Addr) (n m p c d q : Nat) {a0 b0 c0 : Value} (hx : a.eval x = .pointer (some ⟨g, 0, none⟩)) (hy : a.eval y = .agg #[.slice A n c, .slice B m d, .slice C p q]) (hg : BoxAt w g a0 b0 c0)
    (k : K (a.put o.dst undef) (w.setRow g #[.slice A n c, .slice B m d, .slice C p q])) : o.wp Try.prog a w K Q :=
  wp_store_row 49 x y ho g #[.slice A n c, .slice B m d, .slice C p q] hx hy 49 _ hg info_service rfl (by simp [Value.oneCell']) k
theorem row_move {w : World} {g : Nat} {cs : Array Value} : w.heap.size ≤ (w.setRow g cs).heap.size ∧ ∀ b, b ≠ g → (w.setRow g cs).heap[b]? = w.heap[b]? :=
  ⟨by simp, fun b hb => setRow_other w g b cs hb⟩
/-- What is made so far: the copies, the credits, the box. -/
structure Pre (w W : World) (n : Nat) (L : Nat → List Int) (ol oc os : Option Nat) : Prop where
  below : Below w.heap.size w W
  lists : ∀ lb, ol = some lb → w.heap.size ≤ lb ∧ ∃ F, W.rowIs lb 22 n F ∧ ∀ j, j < n → ∃ A c, F j = .slice A (L j).length c ∧ Fifo w.heap.size W A (L j) c ∧ ∀ g, Ab A g → g ≠ lb ∧ (∀ cb, oc = some cb → g ≠ cb) ∧ ∀ sb, os = some sb → g ≠ sb
  cred : ∀ cb, oc = some cb → w.heap.size ≤ cb ∧ W.rowIs cb 3 n (fun _ => .int .i64 0)
  box : ∀ sb, os = some sb → w.heap.size ≤ sb ∧ ∃ a b c, BoxAt W sb a b c
namespace Pre
variable {w W W' : World} {n : Nat} {L : Nat → List Int} {ol oc os : Option Nat}
theorem start {w W : World} (hb : Below w.heap.size w W) : Pre w W n L none none none := ⟨hb, fun _ h => (by cases h), fun _ h => (by cases h), fun _ h => (by cases h)⟩
theorem later (h : Pre w W n L ol oc os) (hb : Below W.heap.size W W') : Pre w W' n L ol oc os := by
  refine ⟨h.below.trans (hb.mono h.below.size), fun lb e => ?_, fun cb e => ?_, fun sb e => ?_⟩
  · obtain ⟨h1, F, r, hF⟩ := h.lists lb e
    refine ⟨h1, F, r.of_block (hb.block _ r.lt), fun j hj => ?_⟩
    obtain ⟨A, c, e, hf, ha⟩ := hF j hj
    exact ⟨A, c, e, hf.below hb, ha⟩
  · obtain ⟨h1, r⟩ := h.cred cb e
    exact ⟨h1, r.of_block (hb.block _ r.lt)⟩
  · obtain ⟨h1, a, b, c, r⟩ := h.box sb e
    exact ⟨h1, a, b, c, r.below hb⟩
theorem copied {lb : Nat} (h : Pre w W n L none oc os) (hc : Copies W W' lb n L) : Pre w W' n L (some lb) oc os := by
  have h' := h.later hc.below
  refine ⟨h'.below, fun x e => ?_, h'.cred, h'.box⟩
  injection e with e
  subst e
  obtain ⟨F, r, hF⟩ := hc.row
  have hs := h.below.size
  have hw := hc.far
  refine ⟨by omega, F, r, fun j hj => ?_⟩
  obtain ⟨A, c, e, hf, ha⟩ := hF j hj
  refine ⟨A, c, e, hf.mono hs, fun g hg => ⟨ha g hg, fun cb ec => ?_, fun sb es => ?_⟩⟩
  · have := (h.cred cb ec).2.lt
    have := (hf.ab g hg).1
    omega
  · obtain ⟨_, _, _, _, r⟩ := h.box sb es
    have := r.lt
    have := (hf.ab g hg).1
    omega
theorem made (h : Pre w W n L ol none os) : Pre w (W.alloc (.cells (madeCells #[.int .i64 0] n) 3)) n L ol (some W.heap.size) os := by
  have hb : Below W.heap.size W (W.alloc (.cells (madeCells #[.int .i64 0] n) 3)) := (Below.refl _ _).alloc (Nat.le_refl _) _
  have h' := h.later hb
  refine ⟨h'.below, fun x e => ?_, fun cb e => ?_, h'.box⟩
  · obtain ⟨h1, F, r, hF⟩ := h.lists x e
    refine ⟨h1, F, r.of_block (hb.block _ r.lt), fun j hj => ?_⟩
    obtain ⟨A, c, e, hf, ha⟩ := hF j hj
    exact ⟨A, c, e, hf.below hb, fun g hg => ⟨(ha g hg).1, fun cb ec => by injection ec with ec; have := (hf.ab g hg).2; omega, (ha g hg).2.2⟩⟩
  · injection e with e
    subst e
    exact ⟨h.below.size, World.rowIs_made W (.int .i64 0) n 3⟩
theorem boxed {a b c : Value} (h : Pre w W n L ol oc none) : Pre w (W.alloc (.cells #[a, b, c] 49)) n L ol oc (some W.heap.size) := by
  have hb : Below W.heap.size W (W.alloc (.cells #[a, b, c] 49)) := (Below.refl _ _).alloc (Nat.le_refl _) _
  have h' := h.later hb
  refine ⟨h'.below, fun x e => ?_, h'.cred, fun sb e => ?_⟩
  · obtain ⟨h1, F, r, hF⟩ := h.lists x e
    refine ⟨h1, F, r.of_block (hb.block _ r.lt), fun j hj => ?_⟩
    obtain ⟨A, c, e, hf, ha⟩ := hF j hj
    exact ⟨A, c, e, hf.below hb, fun g hg => ⟨(ha g hg).1, (ha g hg).2.1, fun sb es => by injection es with es; have := (hf.ab g hg).2; omega⟩⟩
  · injection e with e
    subst e
    exact ⟨h.below.size, a, b, c, heap_alloc_new W _⟩
theorem done {lb cb sb : Nat} (h : Pre w W n L (some lb) (some cb) (some sb)) (hn : n ≤ 16) :
    Sv w (W.setRow sb #[.slice none 0 0, .slice (some ⟨lb, 0, none⟩) n n, .slice (some ⟨cb, 0, none⟩) n n]) W.heap.size sb lb n (some ⟨cb, 0, none⟩) n [] L (List.replicate n 0) := by
  obtain ⟨f1, F, r1, hF⟩ := h.lists lb rfl
  obtain ⟨f2, r2⟩ := h.cred cb rfl
  obtain ⟨f3, a, b, c, r3⟩ := h.box sb rfl
  have d1 : lb ≠ cb := row_ne r1 r2 (by decide)
  have d2 : sb ≠ lb := row_ne r3.row r1 (by decide)
  have d3 : sb ≠ cb := row_ne r3.row r2 (by decide)
  obtain ⟨hs, hb⟩ := row_move (w := W) (g := sb) (cs := #[.slice none 0 0, .slice (some ⟨lb, 0, none⟩) n n, .slice (some ⟨cb, 0, none⟩) n n])
  have hbox : BoxAt (W.setRow sb #[.slice none 0 0, .slice (some ⟨lb, 0, none⟩) n n, .slice (some ⟨cb, 0, none⟩) n n]) sb (.slice none 0 0) (.slice (some ⟨lb, 0, none⟩) n n) (.slice (some ⟨cb, 0, none⟩) n n) := setRow_heap W sb _ _ _ _ r3
  have hcab : ∀ g, Ab (some ⟨cb, 0, none⟩) g → g = cb := fun g hg => by obtain ⟨_, e, rfl⟩ := hg; injection e with e; subst e; rfl
  refine ⟨⟨h.below.os, h.below.tape, h.below.output, by have := h.below.size; omega, fun k hk => (hb k (by omega)).trans (h.below.block k hk)⟩, hs, ⟨f3, r3.lt, f1, r1.lt, d2⟩, ⟨_, hbox.row, OwnS.nil _ _⟩, ⟨F, r1.of_block (hb lb (fun e => d2 e.symm)), fun j hj => ?_⟩,
    ⟨by rw [List.length_replicate]; exact Nat.le_refl _, by simp only [maxLen]; omega, fun _ => ⟨cb, 0, n, _, rfl, f2, r2.of_block (hb cb (fun e => d3 e.symm)), by omega, fun j x hx => ?_⟩, fun g hg => by rw [hcab g hg]; exact ⟨f2, Nat.lt_of_lt_of_le r2.lt hs⟩⟩, List.length_replicate, fun g hg => by rw [hcab g hg]; exact ⟨r2.lt, fun e => d3 e.symm, fun e => d1 e.symm⟩⟩
  · obtain ⟨A, c, e, hf, ha⟩ := hF j hj
    exact ⟨A, c, e, hf.of_blocks hs fun g hg _ => hb g ((ha g hg).2.2 sb rfl), fun g hg => ⟨(hf.ab g hg).2, (ha g hg).2.2 sb rfl, (ha g hg).1, fun hc => (ha g hg).2.1 cb rfl (hcab g hc)⟩⟩
  · have := List.mem_of_getElem? hx
    rw [(List.mem_replicate.1 this).2]
end Pre
/-- What Rounds makes. -/
def Made (w W : World) (n : Nat) (L : Nat → List Int) (v : Value) : Prop := ∃ B sb lb cb, v = .pointer (some ⟨sb, 0, none⟩) ∧ Sv w W B sb lb n (some ⟨cb, 0, none⟩) n [] L (List.replicate n 0)
theorem Pre.made_all {w W : World} {n : Nat} {L : Nat → List Int} {lb cb sb : Nat} (h : Pre w W n L (some lb) (some cb) (some sb)) (hn : n ≤ 16) :
    Made w (W.setRow sb #[.slice none 0 0, .slice (some ⟨lb, 0, none⟩) n n, .slice (some ⟨cb, 0, none⟩) n n]) n L (.pointer (some ⟨sb, 0, none⟩)) :=
  ⟨_, sb, lb, cb, rfl, h.done hn⟩

theorem at_start {xs : List Int} {fs : List (List Int)} {ms : List Int} {w W : World} {B sb lb : Nat} {CB : Option Addr} {cc : Nat} (_hR : Right xs fs) (hC : Cred xs.length ms) (h : Sv w W B sb lb xs.length CB cc [] (fl fs) ms) : At xs fs ms w W B sb lb CB cc 0 0 := by
  unfold At
  rw [show aC xs fs ms 0 0 = ms from ?_, show (fun j => (aD xs fs ms 0 0 j).2.1) = fl fs from funext fun j => by rw [aD_start]; rfl]
  · exact h
  · apply List.ext_getElem?
    intro j
    unfold aC
    rw [List.getElem?_map]
    by_cases c : j < xs.length
    · rw [List.getElem?_range c, at_fn (xs := ms) (by rw [hC.len]; exact c)]
      show some (aD xs fs ms 0 0 j).2.2 = _
      rw [aD_start]
      rfl
    · rw [List.getElem?_eq_none (by simpa using c), List.getElem?_eq_none (by rw [hC.len]; omega)]
      rfl
set_option maxRecDepth 100000 in
set_option maxHeartbeats 16000000 in
theorem rounds_ok {w : World} {P Q : Option Addr} {xs : List Int} {fs : List (List Int)} (hx : IntsIn w P xs) (hy : ListsIn w Q fs) (hR : Right xs fs) (cx cy : Nat) {r : Nat} (hr : r ≤ 400) :
    Calls Try.prog 19 #[.slice P xs.length cx, .slice Q fs.length cy, .int .i64 (r : Int)] w (Out w (outS xs fs (List.replicate xs.length 0) r) (outL xs fs (List.replicate xs.length 0) r) (outC xs fs (List.replicate xs.length 0) r) 0) := by
  have HW := Lib.hid (wrong_any hx hy cx cy)
  rw [hR.wrong] at HW
  have HB := Lib.hid (fun w => between_eq (r : Int) 0 400 w)
  rw [show btw (r : Int) 0 400 = true from by unfold btw; rw [decide_eq_true (by omega), decide_eq_true (by omega)]; rfl] at HB
  have HC := Lib.hid (fun W (hW : Below w.heap.size w W) => copies_any (hy.below hW) (by rw [hR.len]; exact hR.few) (fun f hf => (hR.flows f hf).1) cy)
  unfold Copied at HC
  rw [hR.len] at HC HW ⊢
  have hmk := run_make_row' (P := Try.prog) 22 3 (.int .i64 0) 8 Try.underlying22 (by kernel_rfl) rfl .i64 .i64 xs.length (by have := hR.few; omega) (by have := hR.few; omega)
  have H16 := Lib.hid hR.few
  have HMK := Lib.hid hmk
  have HRD := Lib.hid (fun W B sb lb CB cc k (hA : At xs fs (List.replicate xs.length 0) w W B sb lb CB cc k 0) => round_any hA hR (Cred.zero _) hx cx)
  have HAT : Hid (∀ W B sb lb CB cc, Sv w W B sb lb xs.length CB cc [] (fl fs) (List.replicate xs.length 0) → At xs fs (List.replicate xs.length 0) w W B sb lb CB cc 0 0) := Lib.hid (fun W B sb lb CB cc h => at_start hR (Cred.zero _) h)
  have HO := Lib.hid (fun W B sb lb CB cc (hA : At xs fs (List.replicate xs.length 0) w W B sb lb CB cc r 0) v hv => hA.out hR (v := v) hv)
  have H12 : Hid (∀ W B sb lb CB cc k, At xs fs (List.replicate xs.length 0) w W B sb lb CB cc k 0 → W.cell? ⟨sb, 1, none⟩ = some (.slice (some ⟨lb, 0, none⟩) xs.length xs.length) ∧ W.cell? ⟨sb, 2, none⟩ = some (.slice CB xs.length cc)) := Lib.hid (fun W B sb lb CB cc k h => ⟨Sv.c1 h, Sv.c2 h⟩)
  generalize Out w (outS xs fs (List.replicate xs.length 0) r) (outL xs fs (List.replicate xs.length 0) r) (outC xs fs (List.replicate xs.length 0) r) 0 = D at *
  generalize xs.length = n at *
  clear hx hy hR hmk
  go_enter Try.func19, Try.ntmps19
  go_wp2_with fail
  refine HW.out.mono ?_
  rintro e w1 ⟨rfl, rfl⟩
  go_wp2_with fail
  refine (HB.out _).mono ?_
  rintro e w1 ⟨rfl, rfl⟩
  clear HB HW
  go_upto_region 6 with fail
  go_cut [11] (fun v wx => Hid (Made w wx n (fl fs) v))
  case first =>
    have hmk := HMK.out
    refine wp_region_held_drew (S := (fun _ => True)) (by kernel_rfl) trivial (fun hHeld => ?_)
    obtain ⟨u0, hu0⟩ : ∃ W0, W0 = w.drew := ⟨_, rfl⟩
    have HP0 : Hid (Pre w u0 n (fl fs) none none none) := Lib.hid (by rw [hu0]; exact Pre.start (Below.refl _ _).drew)
    rw [← hu0]
    clear hu0
    refine wpAnyH_take (i := 0) (v := ?_) (by simp only [List.getElem?_toArray, List.getElem?_cons_zero] <;> rfl) (by kernel_rfl) (by kernel_rfl) (by kernel_rfl) (by exact fun _ _ _ h => h) (Or.inl ⟨by rfl, ?_⟩) hHeld ?_
    rotate_left
    · intro w hSw; (try dsimp only at hSw); go_simp; (try with_reducible rfl)
    (try simp only [Act.put, List.setIfInBounds_toArray, List.set_cons_zero, List.set_cons_succ])
    refine wpAnyH_take (i := 2) (v := ?_) (by simp only [List.getElem?_toArray, List.getElem?_cons_succ, List.getElem?_cons_zero] <;> rfl) (by kernel_rfl) (by kernel_rfl) (by kernel_rfl) (by exact fun _ _ _ h => h) (Or.inl ⟨by rfl, ?_⟩) hHeld ?_
    rotate_left
    · intro w hSw; (try dsimp only at hSw); go_simp; (try with_reducible rfl)
    (try simp only [Act.put, List.setIfInBounds_toArray, List.set_cons_zero, List.set_cons_succ])
    refine wpAnyH_take (i := 3) (v := ?_) (by simp only [List.getElem?_toArray, List.getElem?_cons_succ, List.getElem?_cons_zero] <;> rfl) (by kernel_rfl) (by kernel_rfl) (by kernel_rfl) (by exact fun _ _ _ h => h) (Or.inl ⟨by rfl, ?_⟩) hHeld ?_
    rotate_left
    · intro w hSw; (try dsimp only at hSw); go_simp; (try with_reducible rfl)
    (try simp only [Act.put, List.setIfInBounds_toArray, List.set_cons_zero, List.set_cons_succ])
    refine wpAnyH_ready (rs := [1, 4, 6]) (by kernel_rfl) (by simp) ?_
    refine AllReadyH.cons (by simp only [List.getElem?_toArray, List.getElem?_cons_succ, List.getElem?_cons_zero] <;> rfl) (fun K hK => ?_) (AllReadyH.cons (by simp only [List.getElem?_toArray, List.getElem?_cons_succ, List.getElem?_cons_zero] <;> rfl) (fun K hK => ?_) (AllReadyH.cons (by simp only [List.getElem?_toArray, List.getElem?_cons_succ, List.getElem?_cons_zero] <;> rfl) (fun K hK => ?_) AllReadyH.nil))
    · go_simp
      go_at_call 24
      refine (HC.out _ HP0.out.below).mono ?_
      rintro e u1 ⟨rfl, hc⟩
      have HP1 := Lib.hid (HP0.out.copied hc)
      clear hc
      go_wp2_with fail
      refine hK.out _ _ ?_ (fun hHeld => ?_)
      · trivial
      clear hK K
      (try simp only [Act.put, List.setIfInBounds_toArray, List.set_cons_zero, List.set_cons_succ])
      refine wpAnyH_ready (rs := [4, 6]) (by kernel_rfl) (by simp) ?_
      refine AllReadyH.cons (by simp only [List.getElem?_toArray, List.getElem?_cons_succ, List.getElem?_cons_zero] <;> rfl) (fun K hK => ?_) (AllReadyH.cons (by simp only [List.getElem?_toArray, List.getElem?_cons_succ, List.getElem?_cons_zero] <;> rfl) (fun K hK => ?_) AllReadyH.nil)
      · go_simp
        have HP2 := Lib.hid HP1.out.made
        generalize u1.alloc (.cells (madeCells #[.int .i64 0] n) 3) = u2 at *
        refine hK.out _ _ ?_ (fun hHeld => ?_)
        · trivial
        clear hK K
        (try simp only [Act.put, List.setIfInBounds_toArray, List.set_cons_zero, List.set_cons_succ])
        refine wpAnyH_take (i := 5) (v := ?_) (by simp only [List.getElem?_toArray, List.getElem?_cons_succ, List.getElem?_cons_zero] <;> rfl) (by kernel_rfl) (by kernel_rfl) (by kernel_rfl) (by exact fun _ _ _ h => h) (Or.inl ⟨by rfl, ?_⟩) hHeld ?_
        rotate_left
        · intro w hSw; (try dsimp only at hSw); go_simp; (try with_reducible rfl)
        (try simp only [Act.put, List.setIfInBounds_toArray, List.set_cons_zero, List.set_cons_succ])
        refine wpAnyH_ready (rs := [6]) (by kernel_rfl) (by simp) ?_
        refine AllReadyH.cons (by simp only [List.getElem?_toArray, List.getElem?_cons_succ, List.getElem?_cons_zero] <;> rfl) (fun K hK => ?_) AllReadyH.nil
        go_simp
        have HP3 := Lib.hid (HP2.out.boxed (a := .slice none 0 0) (b := .slice none 0 0) (c := .slice none 0 0))
        generalize u2.alloc (.cells #[.slice none 0 0, .slice none 0 0, .slice none 0 0] 49) = u3 at *
        refine hK.out _ _ ?_ (fun hHeld => ?_)
        · trivial
        clear hK K
        (try simp only [Act.put, List.setIfInBounds_toArray, List.set_cons_zero, List.set_cons_succ])
        refine wpAnyH_ready (rs := [7]) (by kernel_rfl) (by simp) ?_
        refine AllReadyH.cons (by simp only [List.getElem?_toArray, List.getElem?_cons_succ, List.getElem?_cons_zero] <;> rfl) (fun K hK => ?_) AllReadyH.nil
        rw [if_pos (by rfl)]
        refine wp_store_sv (.tmp 11) (.tmp 26) rfl (u2.heap.size) none (some ⟨u0.heap.size, 0, none⟩) (some ⟨u1.heap.size, 0, none⟩) 0 n n 0 n n rfl rfl (HP3.out.box _ rfl).2.choose_spec.choose_spec.choose_spec ?_
        have HM := Lib.hid (HP3.out.made_all H16.out)
        refine hK.out _ _ ?_ (fun hHeld => ?_)
        · trivial
        clear hK K
        (try simp only [Act.put])
        refine wpAnyH_done (by kernel_rfl) ?_ _
        go_wp2_with fail
        go_meet
        exact HM
      · go_simp
        have HP2 := Lib.hid (HP1.out.boxed (a := .slice none 0 0) (b := .slice none 0 0) (c := .slice none 0 0))
        generalize u1.alloc (.cells #[.slice none 0 0, .slice none 0 0, .slice none 0 0] 49) = u2 at *
        refine hK.out _ _ ?_ (fun hHeld => ?_)
        · trivial
        clear hK K
        (try simp only [Act.put, List.setIfInBounds_toArray, List.set_cons_zero, List.set_cons_succ])
        refine wpAnyH_ready (rs := [4]) (by kernel_rfl) (by simp) ?_
        refine AllReadyH.cons (by simp only [List.getElem?_toArray, List.getElem?_cons_succ, List.getElem?_cons_zero] <;> rfl) (fun K hK => ?_) AllReadyH.nil
        go_simp
        have HP3 := Lib.hid HP2.out.made
        generalize u2.alloc (.cells (madeCells #[.int .i64 0] n) 3) = u3 at *
        refine hK.out _ _ ?_ (fun hHeld => ?_)
        · trivial
        clear hK K
        (try simp only [Act.put, List.setIfInBounds_toArray, List.set_cons_zero, List.set_cons_succ])
        refine wpAnyH_take (i := 5) (v := ?_) (by simp only [List.getElem?_toArray, List.getElem?_cons_succ, List.getElem?_cons_zero] <;> rfl) (by kernel_rfl) (by kernel_rfl) (by kernel_rfl) (by exact fun _ _ _ h => h) (Or.inl ⟨by rfl, ?_⟩) hHeld ?_
        rotate_left
        · intro w hSw; (try dsimp only at hSw); go_simp; (try with_reducible rfl)
        (try simp only [Act.put, List.setIfInBounds_toArray, List.set_cons_zero, List.set_cons_succ])
        refine wpAnyH_ready (rs := [7]) (by kernel_rfl) (by simp) ?_
        refine AllReadyH.cons (by simp only [List.getElem?_toArray, List.getElem?_cons_succ, List.getElem?_cons_zero] <;> rfl) (fun K hK => ?_) AllReadyH.nil
        rw [if_pos (by rfl)]
        refine wp_store_sv (.tmp 11) (.tmp 26) rfl (u1.heap.size) none (some ⟨u0.heap.size, 0, none⟩) (some ⟨u2.heap.size, 0, none⟩) 0 n n 0 n n rfl rfl (HP3.out.box _ rfl).2.choose_spec.choose_spec.choose_spec ?_
        have HM := Lib.hid (HP3.out.made_all H16.out)
        refine hK.out _ _ ?_ (fun hHeld => ?_)
        · trivial
        clear hK K
        (try simp only [Act.put])
        refine wpAnyH_done (by kernel_rfl) ?_ _
        go_wp2_with fail
        go_meet
        exact HM
    · go_simp
      have HP1 := Lib.hid HP0.out.made
      generalize u0.alloc (.cells (madeCells #[.int .i64 0] n) 3) = u1 at *
      refine hK.out _ _ ?_ (fun hHeld => ?_)
      · trivial
      clear hK K
      (try simp only [Act.put, List.setIfInBounds_toArray, List.set_cons_zero, List.set_cons_succ])
      refine wpAnyH_ready (rs := [1, 6]) (by kernel_rfl) (by simp) ?_
      refine AllReadyH.cons (by simp only [List.getElem?_toArray, List.getElem?_cons_succ, List.getElem?_cons_zero] <;> rfl) (fun K hK => ?_) (AllReadyH.cons (by simp only [List.getElem?_toArray, List.getElem?_cons_succ, List.getElem?_cons_zero] <;> rfl) (fun K hK => ?_) AllReadyH.nil)
      · go_simp
        go_at_call 24
        refine (HC.out _ HP1.out.below).mono ?_
        rintro e u2 ⟨rfl, hc⟩
        have HP2 := Lib.hid (HP1.out.copied hc)
        clear hc
        go_wp2_with fail
        refine hK.out _ _ ?_ (fun hHeld => ?_)
        · trivial
        clear hK K
        (try simp only [Act.put, List.setIfInBounds_toArray, List.set_cons_zero, List.set_cons_succ])
        refine wpAnyH_take (i := 5) (v := ?_) (by simp only [List.getElem?_toArray, List.getElem?_cons_succ, List.getElem?_cons_zero] <;> rfl) (by kernel_rfl) (by kernel_rfl) (by kernel_rfl) (by exact fun _ _ _ h => h) (Or.inl ⟨by rfl, ?_⟩) hHeld ?_
        rotate_left
        · intro w hSw; (try dsimp only at hSw); go_simp; (try with_reducible rfl)
        (try simp only [Act.put, List.setIfInBounds_toArray, List.set_cons_zero, List.set_cons_succ])
        refine wpAnyH_ready (rs := [6]) (by kernel_rfl) (by simp) ?_
        refine AllReadyH.cons (by simp only [List.getElem?_toArray, List.getElem?_cons_succ, List.getElem?_cons_zero] <;> rfl) (fun K hK => ?_) AllReadyH.nil
        go_simp
        have HP3 := Lib.hid (HP2.out.boxed (a := .slice none 0 0) (b := .slice none 0 0) (c := .slice none 0 0))
        generalize u2.alloc (.cells #[.slice none 0 0, .slice none 0 0, .slice none 0 0] 49) = u3 at *
        refine hK.out _ _ ?_ (fun hHeld => ?_)
        · trivial
        clear hK K
        (try simp only [Act.put, List.setIfInBounds_toArray, List.set_cons_zero, List.set_cons_succ])
        refine wpAnyH_ready (rs := [7]) (by kernel_rfl) (by simp) ?_
        refine AllReadyH.cons (by simp only [List.getElem?_toArray, List.getElem?_cons_succ, List.getElem?_cons_zero] <;> rfl) (fun K hK => ?_) AllReadyH.nil
        rw [if_pos (by rfl)]
        refine wp_store_sv (.tmp 11) (.tmp 26) rfl (u2.heap.size) none (some ⟨u1.heap.size, 0, none⟩) (some ⟨u0.heap.size, 0, none⟩) 0 n n 0 n n rfl rfl (HP3.out.box _ rfl).2.choose_spec.choose_spec.choose_spec ?_
        have HM := Lib.hid (HP3.out.made_all H16.out)
        refine hK.out _ _ ?_ (fun hHeld => ?_)
        · trivial
        clear hK K
        (try simp only [Act.put])
        refine wpAnyH_done (by kernel_rfl) ?_ _
        go_wp2_with fail
        go_meet
        exact HM
      · go_simp
        have HP2 := Lib.hid (HP1.out.boxed (a := .slice none 0 0) (b := .slice none 0 0) (c := .slice none 0 0))
        generalize u1.alloc (.cells #[.slice none 0 0, .slice none 0 0, .slice none 0 0] 49) = u2 at *
        refine hK.out _ _ ?_ (fun hHeld => ?_)
        · trivial
        clear hK K
        (try simp only [Act.put, List.setIfInBounds_toArray, List.set_cons_zero, List.set_cons_succ])
        refine wpAnyH_ready (rs := [1]) (by kernel_rfl) (by simp) ?_
        refine AllReadyH.cons (by simp only [List.getElem?_toArray, List.getElem?_cons_succ, List.getElem?_cons_zero] <;> rfl) (fun K hK => ?_) AllReadyH.nil
        go_simp
        go_at_call 24
        refine (HC.out _ HP2.out.below).mono ?_
        rintro e u3 ⟨rfl, hc⟩
        have HP3 := Lib.hid (HP2.out.copied hc)
        clear hc
        go_wp2_with fail
        refine hK.out _ _ ?_ (fun hHeld => ?_)
        · trivial
        clear hK K
        (try simp only [Act.put, List.setIfInBounds_toArray, List.set_cons_zero, List.set_cons_succ])
        refine wpAnyH_take (i := 5) (v := ?_) (by simp only [List.getElem?_toArray, List.getElem?_cons_succ, List.getElem?_cons_zero] <;> rfl) (by kernel_rfl) (by kernel_rfl) (by kernel_rfl) (by exact fun _ _ _ h => h) (Or.inl ⟨by rfl, ?_⟩) hHeld ?_
        rotate_left
        · intro w hSw; (try dsimp only at hSw); go_simp; (try with_reducible rfl)
        (try simp only [Act.put, List.setIfInBounds_toArray, List.set_cons_zero, List.set_cons_succ])
        refine wpAnyH_ready (rs := [7]) (by kernel_rfl) (by simp) ?_
        refine AllReadyH.cons (by simp only [List.getElem?_toArray, List.getElem?_cons_succ, List.getElem?_cons_zero] <;> rfl) (fun K hK => ?_) AllReadyH.nil
        rw [if_pos (by rfl)]
        refine wp_store_sv (.tmp 11) (.tmp 26) rfl (u1.heap.size) none (some ⟨u2.heap.size, 0, none⟩) (some ⟨u0.heap.size, 0, none⟩) 0 n n 0 n n rfl rfl (HP3.out.box _ rfl).2.choose_spec.choose_spec.choose_spec ?_
        have HM := Lib.hid (HP3.out.made_all H16.out)
        refine hK.out _ _ ?_ (fun hHeld => ?_)
        · trivial
        clear hK K
        (try simp only [Act.put])
        refine wpAnyH_done (by kernel_rfl) ?_ _
        go_wp2_with fail
        go_meet
        exact HM
    · go_simp
      have HP1 := Lib.hid (HP0.out.boxed (a := .slice none 0 0) (b := .slice none 0 0) (c := .slice none 0 0))
      generalize u0.alloc (.cells #[.slice none 0 0, .slice none 0 0, .slice none 0 0] 49) = u1 at *
      refine hK.out _ _ ?_ (fun hHeld => ?_)
      · trivial
      clear hK K
      (try simp only [Act.put, List.setIfInBounds_toArray, List.set_cons_zero, List.set_cons_succ])
      refine wpAnyH_ready (rs := [1, 4]) (by kernel_rfl) (by simp) ?_
      refine AllReadyH.cons (by simp only [List.getElem?_toArray, List.getElem?_cons_succ, List.getElem?_cons_zero] <;> rfl) (fun K hK => ?_) (AllReadyH.cons (by simp only [List.getElem?_toArray, List.getElem?_cons_succ, List.getElem?_cons_zero] <;> rfl) (fun K hK => ?_) AllReadyH.nil)
      · go_simp
        go_at_call 24
        refine (HC.out _ HP1.out.below).mono ?_
        rintro e u2 ⟨rfl, hc⟩
        have HP2 := Lib.hid (HP1.out.copied hc)
        clear hc
        go_wp2_with fail
        refine hK.out _ _ ?_ (fun hHeld => ?_)
        · trivial
        clear hK K
        (try simp only [Act.put, List.setIfInBounds_toArray, List.set_cons_zero, List.set_cons_succ])
        refine wpAnyH_ready (rs := [4]) (by kernel_rfl) (by simp) ?_
        refine AllReadyH.cons (by simp only [List.getElem?_toArray, List.getElem?_cons_succ, List.getElem?_cons_zero] <;> rfl) (fun K hK => ?_) AllReadyH.nil
        go_simp
        have HP3 := Lib.hid HP2.out.made
        generalize u2.alloc (.cells (madeCells #[.int .i64 0] n) 3) = u3 at *
        refine hK.out _ _ ?_ (fun hHeld => ?_)
        · trivial
        clear hK K
        (try simp only [Act.put, List.setIfInBounds_toArray, List.set_cons_zero, List.set_cons_succ])
        refine wpAnyH_take (i := 5) (v := ?_) (by simp only [List.getElem?_toArray, List.getElem?_cons_succ, List.getElem?_cons_zero] <;> rfl) (by kernel_rfl) (by kernel_rfl) (by kernel_rfl) (by exact fun _ _ _ h => h) (Or.inl ⟨by rfl, ?_⟩) hHeld ?_
        rotate_left
        · intro w hSw; (try dsimp only at hSw); go_simp; (try with_reducible rfl)
        (try simp only [Act.put, List.setIfInBounds_toArray, List.set_cons_zero, List.set_cons_succ])
        refine wpAnyH_ready (rs := [7]) (by kernel_rfl) (by simp) ?_
        refine AllReadyH.cons (by simp only [List.getElem?_toArray, List.getElem?_cons_succ, List.getElem?_cons_zero] <;> rfl) (fun K hK => ?_) AllReadyH.nil
        rw [if_pos (by rfl)]
        refine wp_store_sv (.tmp 11) (.tmp 26) rfl (u0.heap.size) none (some ⟨u1.heap.size, 0, none⟩) (some ⟨u2.heap.size, 0, none⟩) 0 n n 0 n n rfl rfl (HP3.out.box _ rfl).2.choose_spec.choose_spec.choose_spec ?_
        have HM := Lib.hid (HP3.out.made_all H16.out)
        refine hK.out _ _ ?_ (fun hHeld => ?_)
        · trivial
        clear hK K
        (try simp only [Act.put])
        refine wpAnyH_done (by kernel_rfl) ?_ _
        go_wp2_with fail
        go_meet
        exact HM
      · go_simp
        have HP2 := Lib.hid HP1.out.made
        generalize u1.alloc (.cells (madeCells #[.int .i64 0] n) 3) = u2 at *
        refine hK.out _ _ ?_ (fun hHeld => ?_)
        · trivial
        clear hK K
        (try simp only [Act.put, List.setIfInBounds_toArray, List.set_cons_zero, List.set_cons_succ])
        refine wpAnyH_ready (rs := [1]) (by kernel_rfl) (by simp) ?_
        refine AllReadyH.cons (by simp only [List.getElem?_toArray, List.getElem?_cons_succ, List.getElem?_cons_zero] <;> rfl) (fun K hK => ?_) AllReadyH.nil
        go_simp
        go_at_call 24
        refine (HC.out _ HP2.out.below).mono ?_
        rintro e u3 ⟨rfl, hc⟩
        have HP3 := Lib.hid (HP2.out.copied hc)
        clear hc
        go_wp2_with fail
        refine hK.out _ _ ?_ (fun hHeld => ?_)
        · trivial
        clear hK K
        (try simp only [Act.put, List.setIfInBounds_toArray, List.set_cons_zero, List.set_cons_succ])
        refine wpAnyH_take (i := 5) (v := ?_) (by simp only [List.getElem?_toArray, List.getElem?_cons_succ, List.getElem?_cons_zero] <;> rfl) (by kernel_rfl) (by kernel_rfl) (by kernel_rfl) (by exact fun _ _ _ h => h) (Or.inl ⟨by rfl, ?_⟩) hHeld ?_
        rotate_left
        · intro w hSw; (try dsimp only at hSw); go_simp; (try with_reducible rfl)
        (try simp only [Act.put, List.setIfInBounds_toArray, List.set_cons_zero, List.set_cons_succ])
        refine wpAnyH_ready (rs := [7]) (by kernel_rfl) (by simp) ?_
        refine AllReadyH.cons (by simp only [List.getElem?_toArray, List.getElem?_cons_succ, List.getElem?_cons_zero] <;> rfl) (fun K hK => ?_) AllReadyH.nil
        rw [if_pos (by rfl)]
        refine wp_store_sv (.tmp 11) (.tmp 26) rfl (u0.heap.size) none (some ⟨u2.heap.size, 0, none⟩) (some ⟨u1.heap.size, 0, none⟩) 0 n n 0 n n rfl rfl (HP3.out.box _ rfl).2.choose_spec.choose_spec.choose_spec ?_
        have HM := Lib.hid (HP3.out.made_all H16.out)
        refine hK.out _ _ ?_ (fun hHeld => ?_)
        · trivial
        clear hK K
        (try simp only [Act.put])
        refine wpAnyH_done (by kernel_rfl) ?_ _
        go_wp2_with fail
        go_meet
        exact HM
  case rest =>
    obtain ⟨B, sb, lb, cb, rfl, hs⟩ := hcut.out
    have HA := Lib.hid (HAT.out _ _ _ _ _ _ hs)
    clear hcut hs HAT HC HMK H16
    go_wp2_with fail
    go_loopg [28] r (fun z c wi => ∃ k : Nat, c = .int .i64 (k : Int) ∧ k + z = r ∧ Hid (At xs fs (List.replicate n 0) w wi B sb lb (some ⟨cb, 0, none⟩) n k 0))
    case atStart => exact ⟨0, rfl, by omega, HA⟩
    case round =>
      clear HA
      obtain ⟨k, rfl, hkz, HI⟩ := hrel
      cases gk with
      | zero =>
        obtain rfl : k = r := by omega
        obtain ⟨v, hv, -⟩ := HI.out.c0
        obtain ⟨c1, c2⟩ := H12.out _ _ _ _ _ _ _ HI.out
        have HZ := Lib.hid (fun q => HO.out _ _ _ _ _ _ (HI.out.drewN q) v hv)
        clear HI HO HRD H12
        go_upto_region 11 with fail
        go_quiet (fail)
        go_wp2_with fail
        exact bodyPost_ret (results_four 6 7 8 9 rfl _ _) rfl (HZ.out _)
      | succ z =>
        have i1 : (k : Int) < (r : Int) := by omega
        have HR := Lib.hid (HRD.out _ _ _ _ _ _ _ HI.out)
        have HKZ := Lib.hid hkz
        clear HI HRD HO H12 hkz
        go_wp2_with fail
        refine HR.out.mono ?_
        rintro e w2 ⟨rfl, hA⟩
        have HA := Lib.hid hA
        clear hA HR
        go_wp2_with fail
        go_roundg z
        case measure => omega
        case rel => exact ⟨k + 1, by go_num, by have := HKZ.out; omega, HA⟩
/-- What Rounds answers, whatever the arguments. -/
def roundsErr (xs : List Int) (fs : List (List Int)) (r : Int) : Int := if wrongL xs fs ≠ 0 then wrongL xs fs else if 0 ≤ r ∧ r ≤ 400 then 0 else 2
theorem rounds_no {w : World} {P Q : Option Addr} {xs : List Int} {fs : List (List Int)} (hx : IntsIn w P xs) (hy : ListsIn w Q fs) (cx cy : Nat) {r E : Int} (hE : roundsErr xs fs r = E) (h0 : E ≠ 0) :
    Calls Try.prog 19 #[.slice P xs.length cx, .slice Q fs.length cy, .int .i64 r] w (Out w [] [] [] E) := by
  have HW := Lib.hid (wrong_any hx hy cx cy)
  have HZ := Lib.hid (out_none (err := E) (Below.refl w.heap.size w))
  generalize Out w [] [] [] E = D at *
  by_cases c : wrongL xs fs = 0
  · have HB := Lib.hid (fun w => between_eq r 0 400 w)
    have hb : ¬ (0 ≤ r ∧ r ≤ 400) := fun h => h0 (by rw [← hE]; unfold roundsErr; rw [if_neg (by omega), if_pos h])
    rw [show btw r 0 400 = false from by unfold btw; rw [Bool.and_eq_false_iff, decide_eq_false_iff_not, decide_eq_false_iff_not]; omega] at HB
    have hE2 : E = 2 := by rw [← hE]; unfold roundsErr; rw [if_neg (by omega), if_neg hb]
    subst hE2
    rw [c] at HW
    clear hx hy hE h0 c hb
    go_enter Try.func19, Try.ntmps19
    go_wp2_with fail
    refine HW.out.mono ?_
    rintro e w1 ⟨rfl, rfl⟩
    go_wp2_with fail
    refine (HB.out _).mono ?_
    rintro e w1 ⟨rfl, rfl⟩
    go_wp2_with fail
    exact bodyPost_ret (results_four 6 7 8 9 rfl _ _) rfl HZ.out
  · have hE2 : wrongL xs fs = E := by rw [← hE]; unfold roundsErr; rw [if_pos c]
    have hb : (E != 0) = true := by rcases wrongL_way xs fs with h | h | h <;> (rw [hE2] at h; first | (rw [h.1]; rfl) | (exact absurd h.1 (by rw [← hE2]; exact c)))
    rw [hE2] at HW
    clear hx hy hE h0 c hE2
    go_enter Try.func19, Try.ntmps19
    go_wp2_with fail
    refine HW.out.mono ?_
    rintro e w1 ⟨rfl, rfl⟩
    go_wp2_with fail
    exact bodyPost_ret (results_four 6 7 8 9 rfl _ _) rfl HZ.out
end Go.Proofs.Ytgphbplmkegdeaa
