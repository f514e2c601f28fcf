/- Package drr: round, copies. -/
import Derived.Test.YtgphbplmkegdeaaDv2
import Derived.Test.YtgphbplmkegdeaaDr0b
namespace Go.Proofs.Ytgphbplmkegdeaa
open Go.RowKit Go.Maps

/-- The service after r rounds and k flows. -/
def At (xs : List Int) (fs : List (List Int)) (ms : List Int) (w wr : World) (B sb lb : Nat) (CB : Option Addr) (cc r k : Nat) : Prop := Sv w wr B sb lb xs.length CB cc (aS xs fs ms r k) (fun j => (aD xs fs ms r k j).2.1) (aC xs fs ms r k)
theorem At.turn {xs : List Int} {fs : List (List Int)} {ms : List Int} {w wr : World} {B sb lb : Nat} {CB : Option Addr} {cc r : Nat} (h : At xs fs ms w wr B sb lb CB cc r xs.length) : At xs fs ms w wr B sb lb CB cc (r + 1) 0 := by
  unfold At at *
  rw [aS_end, aC_end] at h
  obtain ⟨F, h3, h4⟩ := h.left
  exact ⟨h.below, h.mark, h.far, h.row, ⟨F, h3, fun j hj => by rw [← aD_end xs fs ms r j hj]; exact h4 j hj⟩, h.cred, h.len, h.cab⟩
theorem At.serve {xs : List Int} {fs : List (List Int)} {ms : List Int} {w wr : World} {B sb lb : Nat} {CB : Option Addr} {cc r k : Nat} (h : At xs fs ms w wr B sb lb CB cc r k) (hR : Right xs fs) (hC : Cred xs.length ms) (hk : k < xs.length) :
    Calls Try.prog 33 #[.pointer (some ⟨sb, 0, none⟩), .int .i64 (k : Int), .int .i64 (fn xs k)] wr fun e w' => e = .returned (.tuple #[]) ∧ At xs fs ms w w' B sb lb CB cc r (k + 1) := by
  obtain ⟨d, hd⟩ : ∃ d, drv ((fD xs fs ms r k).2.2 + fn xs k) (fD xs fs ms r k).2.1 = d := ⟨_, rfl⟩
  obtain ⟨done, rest, c⟩ := d
  obtain ⟨h1, h2, h3⟩ := serve_step hk hd
  have hl : (aS xs fs ms r k ++ done.map fun b => (k, b)).length ≤ 6400 := by rw [h1]; exact aS_len hR r (by omega)
  have hf := fD_len (ms := ms) hR r k
  have key := serve_any (t := fn xs k) (done := done) (rest := rest) (c := c) h hk hR.few (hR.turn0 k) (by rw [aC_fn _ _ _ _ _ hk, aD_here]; exact fD_cred hR hC r k) (by rw [aD_here]; omega) (by rw [aD_here]; exact fD_sizes hR r k) (by rw [aC_fn _ _ _ _ _ hk, aD_here]; exact hd) hl
  refine key.mono ?_
  rintro e w' ⟨he, hs⟩
  rw [h1, h3, show (fun j => if j = k then rest else (aD xs fs ms r k j).2.1) = fun j => (aD xs fs ms r (k + 1) j).2.1 from funext h2] at hs
  exact ⟨he, hs⟩

set_option maxRecDepth 100000 in
set_option maxHeartbeats 4000000 in
theorem round_any {xs : List Int} {fs : List (List Int)} {ms : List Int} {w wr : World} {B sb lb : Nat} {CB : Option Addr} {cc r : Nat} (h : At xs fs ms w wr B sb lb CB cc r 0) (hR : Right xs fs) (hC : Cred xs.length ms) {P : Option Addr} (hx : IntsIn w P xs) (cx : Nat) :
    Calls Try.prog 26 #[.pointer (some ⟨sb, 0, none⟩), .slice P xs.length cx] wr fun e w' => e = .returned (.tuple #[]) ∧ At xs fs ms w w' B sb lb CB cc (r + 1) 0 := by
  obtain ⟨n, hn⟩ : ∃ n, xs.length = n := ⟨_, rfl⟩
  have HS := Lib.hid (fun W k (hA : At xs fs ms w W B sb lb CB cc r k) (hk : k < xs.length) => hA.serve hR hC hk)
  have HP := Lib.hid (fun W (hW : Below w.heap.size w W) => hx.below hW)
  have H0 := Lib.hid h
  have HN := Lib.hid hn
  have h16 : n ≤ 16 := by rw [← hn]; exact hR.few
  have HE : Hid (∀ W, At xs fs ms w W B sb lb CB cc r n → At xs fs ms w W B sb lb CB cc (r + 1) 0) := Lib.hid (fun W hA => by rw [← hn] at hA; exact hA.turn)
  rw [hn]
  clear h hR hC hx hn
  go_enter Try.func26, Try.ntmps26
  go_wp2_with fail
  go_loopg [8] n (fun z c wi => ∃ k : Nat, c = .int .i64 (k : Int) ∧ k + z = n ∧ Hid (At xs fs ms w wi B sb lb CB cc r k))
  case atStart => exact ⟨0, rfl, by omega, H0⟩
  case round =>
    clear H0
    obtain ⟨k, rfl, hkz, HI⟩ := hrel
    cases gk with
    | zero =>
      obtain rfl : k = n := by omega
      have HZ := Lib.hid (HE.out _ HI.out)
      clear HI HE HS HP HN
      go_wp2_with fail
      go_end0
      exact ⟨rfl, HZ.out⟩
    | succ z =>
      have hk : k < n := by omega
      have k1 : (k : Int) < (n : Int) := by omega
      obtain ⟨b, off, x, rfl, hx, hat, -⟩ := (HP.out _ HI.out.below).next (i := k) (by rw [HN.out]; exact hk)
      have HC := Lib.hid (HS.out _ k HI.out (by rw [HN.out]; exact hk))
      rw [fn_at hx] at HC
      have HKZ := Lib.hid hkz
      clear hx HI HE HS HP HN hkz
      go_wp2_with fail
      refine HC.out.mono ?_
      rintro e w2 ⟨rfl, hA⟩
      have HA := Lib.hid hA
      clear hA HC hat
      go_wp2_with fail
      go_roundg z
      case measure => omega
      case rel => exact ⟨k + 1, by go_num, by have := HKZ.out; omega, HA⟩

/-! ### copies -/
/-- What copies leaves: a row of slices of its own. -/
structure Copies (w w' : World) (lb n : Nat) (L : Nat → List Int) : Prop where
  below : Below w.heap.size w w'
  far : w.heap.size ≤ lb
  row : ∃ F, w'.rowIs lb 22 n F ∧ ∀ j, j < n → ∃ A c, F j = .slice A (L j).length c ∧ Fifo w.heap.size w' A (L j) c ∧ ∀ g, Ab A g → g ≠ lb
theorem Copies.later {w w' W : World} {lb n : Nat} {L : Nat → List Int} (h : Copies w w' lb n L) (hb : Below w'.heap.size w' W) : Copies w W lb n L := by
  obtain ⟨F, h1, h2⟩ := h.row
  refine ⟨h.below.trans (hb.mono h.below.size), h.far, ⟨F, h1.of_block (hb.block _ h1.lt), fun j hj => ?_⟩⟩
  obtain ⟨A, c, e, hf, ha⟩ := h2 j hj
  exact ⟨A, c, e, hf.below hb, ha⟩
/-- The first i are copied. -/
structure Copying (w wr : World) (lb n i : Nat) (L : Nat → List Int) : Prop where
  below : Below w.heap.size w wr
  far : w.heap.size ≤ lb
  row : ∃ F, wr.rowIs lb 22 n F ∧ ∀ j, j < i → ∃ A c, F j = .slice A (L j).length c ∧ Fifo w.heap.size wr A (L j) c ∧ ∀ g, Ab A g → g ≠ lb
namespace Copying
variable {w wr W : World} {lb n i : Nat} {L : Nat → List Int}
theorem later (h : Copying w wr lb n i L) (hb : Below wr.heap.size wr W) : Copying w W lb n i L := by
  obtain ⟨F, h1, h2⟩ := h.row
  refine ⟨h.below.trans (hb.mono h.below.size), h.far, ⟨F, h1.of_block (hb.block _ h1.lt), fun j hj => ?_⟩⟩
  obtain ⟨A, c, e, hf, ha⟩ := h2 j hj
  exact ⟨A, c, e, hf.below hb, ha⟩
theorem seat (h : Copying w wr lb n i L) (hi : i < n) : (∃ x, wr.cell? ⟨lb, i, none⟩ = some x) ∧ wr.frozen? ⟨lb, i, none⟩ = false := by
  obtain ⟨F, h1, _⟩ := h.row
  exact ⟨⟨_, h1.cell hi⟩, h1.frozen i⟩
theorem put (h : Copying w wr lb n i L) (hb : Below wr.heap.size wr W) {A : Option Addr} {c : Nat} (hf : Fifo wr.heap.size W A (L i) c) : Copying w (W.setCell ⟨lb, i, none⟩ (.slice A (L i).length c)) lb n (i + 1) L := by
  have h' := h.later hb
  obtain ⟨F, h1, h2⟩ := h'.row
  have hlt : lb < wr.heap.size := by
    obtain ⟨F0, r0, _⟩ := h.row
    exact r0.lt
  have hs : W.heap.size ≤ (W.setCell ⟨lb, i, none⟩ (.slice A (L i).length c)).heap.size := by simp [World.setCell]
  have hbl : ∀ g, g ≠ lb → (W.setCell ⟨lb, i, none⟩ (.slice A (L i).length c)).heap[g]? = W.heap[g]? := fun g hg => Below.heap_setCell W ⟨lb, i, none⟩ _ g hg
  have hA : ∀ g, Ab A g → g ≠ lb := fun g hg => by have := (hf.ab g hg).1; omega
  refine ⟨h'.below.setCell (p := ⟨lb, i, none⟩) h.far _, h.far, ⟨_, h1.set i _, fun j hj => ?_⟩⟩
  by_cases e : j = i
  · subst e
    rw [if_pos rfl]
    exact ⟨A, c, rfl, (hf.mono h.below.size).of_blocks hs fun g hg _ => hbl g (hA g hg), hA⟩
  · rw [if_neg e]
    obtain ⟨A2, c2, e2, hf2, ha2⟩ := h2 j (by omega)
    exact ⟨A2, c2, e2, hf2.of_blocks hs fun g hg _ => hbl g (ha2 g hg), ha2⟩
end Copying
def laidL (w : World) (n : Nat) : World := w.alloc (.cells (madeCells #[.slice none 0 0] n) 22)
theorem make_lists (n : Nat) (hn : n ≤ 16) (w : World) : (Instr.makeSlice 23 (.int .i64 (n : Int)) (.int .i64 (n : Int))).run Try.prog w = .ok (.slice (some ⟨w.heap.size, 0, none⟩) n n) (laidL w n) :=
  run_make_row' (P := Try.prog) 23 22 (.slice none 0 0) 24 Try.underlying23 (by kernel_rfl) rfl .i64 .i64 n (by omega) (by omega) w
theorem copying_start {w : World} (n : Nat) (L : Nat → List Int) : Copying w (laidL w n) w.heap.size n 0 L :=
  ⟨(Below.refl _ _).alloc (Nat.le_refl _) _, Nat.le_refl _, ⟨_, World.rowIs_made w (.slice none 0 0) n 22, fun j hj => by omega⟩⟩
/-- What copies answers. -/
def Copied (w : World) (n : Nat) (L : Nat → List Int) (e : Ending) (w' : World) : Prop := e = .returned (.slice (some ⟨w.heap.size, 0, none⟩) n n) ∧ Copies w w' w.heap.size n L

set_option maxRecDepth 100000 in
set_option maxHeartbeats 4000000 in
theorem copies_any {w : World} {A : Option Addr} {fs : List (List Int)} (h : ListsIn w A fs) (hn16 : fs.length ≤ 16) (hl : ∀ f ∈ fs, f.length ≤ 400) (cap : Nat) :
    Calls Try.prog 24 #[.slice A fs.length cap] w (Copied w fs.length (fl fs)) := by
  obtain ⟨n, hn⟩ : ∃ n, fs.length = n := ⟨_, rfl⟩
  have HP := Lib.hid (fun W (hW : Below w.heap.size w W) => h.below hW)
  have HN := Lib.hid (And.intro hn hl)
  have HMK := Lib.hid (fun w => make_lists n (by omega) w)
  have HZ : Hid (∀ W, Copying w W w.heap.size n n (fl fs) → Copied w n (fl fs) (.returned (.slice (some ⟨w.heap.size, 0, none⟩) n n)) W) := Lib.hid (fun W hc => ⟨rfl, hc.below, hc.far, hc.row⟩)
  have HC0 := Lib.hid (copying_start (w := w) n (fl fs))
  rw [hn]
  rw [hn] at hn16
  generalize Copied w n (fl fs) = D at *
  clear h hl hn
  have hmk := HMK.out
  go_enter Try.func24, Try.ntmps24
  go_upto_region 2 with fail
  clear hmk HMK
  generalize laidL w n = w1 at *
  obtain ⟨lb, hlb⟩ : ∃ lb, w.heap.size = lb := ⟨_, rfl⟩
  have HLB := Lib.hid hlb
  rw [hlb] at HC0 HZ ⊢
  clear hlb
  go_wp2_with fail
  go_loopg [11] n (fun z c wi => ∃ i : Nat, c = .int .i64 (i : Int) ∧ i + z = n ∧ Hid (Copying w wi lb n i (fl fs)))
  case atStart => exact ⟨0, rfl, by omega, HC0⟩
  case round =>
    clear HC0
    obtain ⟨i, rfl, hiz, HI⟩ := hrel
    cases gk with
    | zero =>
      obtain rfl : i = n := by omega
      have HR := Lib.hid (HZ.out _ HI.out)
      clear HI HZ HP HN HLB
      go_wp2_with fail
      exact HR.out
    | succ z =>
      have hi : i < n := by omega
      have i1 : (i : Int) < (n : Int) := by omega
      obtain ⟨b, off, f, Bf, cf, rfl, hf, hat, hin, -, -⟩ := (HP.out _ HI.out.below).next (i := i) (by rw [HN.out.1]; exact hi)
      have hfl := fl_at hf
      have hfm := HN.out.2 f (List.mem_of_getElem? hf)
      have HC := Lib.hid (clone_any hin cf (fun e => by
        cases f with
        | nil => rfl
        | cons x r =>
          obtain ⟨b2, o2, e2, _⟩ := hin.at_ (by simp)
          rw [e] at e2
          cases e2) (by omega))
      unfold ClonedI at HC
      have HIZ := Lib.hid hiz
      have HI2 := Lib.hid HI.out
      have HFL := Lib.hid hfl
      clear hf hin hfm hfl HI HZ HP HN HLB hiz
      go_wp2_with fail
      refine HC.out.mono ?_
      rintro e w2 ⟨A2, c2, rfl, hf2, hb⟩
      obtain ⟨⟨v0, q0⟩, q1⟩ := (HI2.out.later hb).seat hi
      have HQ : Hid (Copying w (w2.setCell ⟨lb, i, none⟩ (.slice A2 f.length c2)) lb n (i + 1) (fl fs)) := Lib.hid (by
        have := HI2.out.put (A := A2) (c := c2) hb (by rw [HFL.out]; exact hf2)
        rwa [HFL.out] at this)
      clear hf2 hb HC HI2 HFL hat
      go_wp2_with fail
      go_roundg z
      case measure => omega
      case rel => exact ⟨i + 1, by go_num, by have := HIZ.out; omega, HQ⟩
end Go.Proofs.Ytgphbplmkegdeaa
