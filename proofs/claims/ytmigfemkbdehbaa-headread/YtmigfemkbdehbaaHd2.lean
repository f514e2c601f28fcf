/- Contracts of package head over bytes that lie in memory: word, headerBytes, portsPresent, putWord. -/
import Derived.Test.YtmigfemkbdehbaaHd1
namespace Go.Proofs.Ytmigfemkbdehbaa
open Go.RowKit Go.Maps

theorem nth_eq {bs : List Int} {i : Nat} {x : Int} (h : bs[i]? = some x) : nth bs i = x := by unfold nth; rw [h]; rfl
theorem Lies.nth {w : World} {A : Option Addr} {bs : List Int} (h : Lies w A bs) {i : Nat} (hi : i < bs.length) :
    ∃ b off, A = some ⟨b, off, none⟩ ∧ w.cell? ⟨b, off + i, none⟩ = some (.int .u8 (nth bs i)) ∧ 0 ≤ nth bs i ∧ nth bs i < 256 := by
  obtain ⟨b, off, x, e, hc, hx, h0, h1⟩ := h.next hi
  rw [nth_eq hx]
  exact ⟨b, off, e, hc, h0, h1⟩
theorem wraps_i64 (n : Int) (h₀ : 0 ≤ n) (h₁ : n < 2 ^ 63) : IntKind.i64.wrap n = n := by
  simp [IntKind.wrap, IntKind.bits, IntKind.signed]
  omega

theorem or_i64 {x y : Int} (hx : Byte x) (hy : Byte y) : bits .or .i64 (x * 256) y = x * 256 + y := by
  obtain ⟨x0, x1⟩ := hx
  obtain ⟨y0, y1⟩ := hy
  exact bits_join .i64 63 (by decide) wraps_i64 8 (x * 256) y (by omega) (by omega) (by omega) y0 (by omega) (by omega)
theorem and_i64 {x : Int} (hx : Half x) : bits .and .i64 x 8191 = x % 8192 := by
  obtain ⟨x0, x1⟩ := hx
  exact bits_mask .i64 63 (by decide) wraps_i64 13 (by decide) x x0 (by omega)

set_option maxHeartbeats 1000000 in
theorem word_any {w : World} {A : Option Addr} {bs : List Int} (h : Lies w A bs) (cap : Nat) {i : Nat} (hi : i + 1 < bs.length) :
    Calls Try.prog 23 #[.slice A bs.length cap, .int .i64 (i : Int)] w fun e w' => e = .returned (.int .i64 (wordAt bs i)) ∧ ∃ m, w' = w.drewN m := by
  obtain ⟨b, off, rfl, c0, x0, x1⟩ := h.nth (i := i) (by omega)
  obtain ⟨b', off', e, c1, y0, y1⟩ := h.nth (i := i + 1) hi
  injection e with e
  injection e with e1 e2
  subst e1 e2
  have hl := h.len
  unfold wordAt
  generalize nth bs i = x at *
  generalize nth bs (i + 1) = y at *
  have eo := or_i64 ⟨x0, x1⟩ ⟨y0, y1⟩
  generalize bs.length = n at *
  have i1 : (i : Int) < (n : Int) := by omega
  have i2 : (i : Int) + 1 < (n : Int) := by omega
  clear h
  go_enter Try.func23, Try.ntmps23
  go_wp2
  go_quiet (fail)
  go_wp2
  go_ret
  exact ⟨rfl, _, rfl⟩

theorem lies_drewN {w : World} {A : Option Addr} {bs : List Int} (h : Lies w A bs) (m : Nat) : Lies (w.drewN m) A bs := h.below (below_drewN (Below.refl _ w) m)

set_option maxHeartbeats 1000000 in
theorem headerBytes_any {w : World} {A : Option Addr} {bs : List Int} (h : Lies w A bs) (cap : Nat) (hi : 0 < bs.length) :
    Calls Try.prog 25 #[.slice A bs.length cap] w fun e w' => e = .returned (.int .i64 (hsize bs)) ∧ w = w' := by
  obtain ⟨b, off, rfl, c0, x0, x1⟩ := h.nth hi
  rw [Nat.add_zero] at c0
  have hl := h.len
  unfold hsize
  generalize nth bs 0 = x at *
  have e := u8_and15 x x0 x1
  generalize bs.length = n at *
  have i1 : (0 : Int) < (n : Int) := by omega
  clear h
  go_enter Try.func25, Try.ntmps25
  go_wp2
  go_ret
  exact ⟨ret_int (by go_num), rfl⟩

set_option maxHeartbeats 1000000 in
theorem portsPresent_any {w : World} {A : Option Addr} {bs : List Int} (h : Lies w A bs) (cap : Nat) (hi : 10 ≤ bs.length) :
    Calls Try.prog 24 #[.slice A bs.length cap] w fun e w' => e = .returned (.bool (portsIn bs)) ∧ ∃ m, w' = w.drewN m := by
  have H1 := Lib.hid (word_any h cap (i := 6) (by omega))
  have hW := and_i64 (wordAt_half h.bytes 6)
  have hl := h.len
  obtain ⟨b, off, rfl, c0, x0, x1⟩ := h.nth (i := 9) (by omega)
  unfold portsIn
  generalize wordAt bs 6 = W at *
  generalize nth bs 9 = x at *
  have H2 := Lib.hid (fun w => hasPorts_any x w)
  generalize ported x = p at *
  generalize bs.length = n at *
  have i1 : (9 : Int) < (n : Int) := by omega
  obtain ⟨r, hr⟩ : ∃ r, r = W % 8192 := ⟨_, rfl⟩
  rw [← hr] at hW ⊢
  clear h hr
  go_enter Try.func24, Try.ntmps24
  go_wp2_with fail
  refine H1.out.mono ?_
  rintro e w1 ⟨rfl, m, rfl⟩
  have c0' : (w.drewN m).cell? ⟨b, off + 9, none⟩ = some (.int .u8 x) := c0
  go_wp2_with fail
  refine (H2.out _).mono ?_
  rintro e w1 ⟨rfl, rfl⟩
  cases p with
  | false =>
    go_wp2_with fail
    go_ret
    exact ⟨ret_bool (by simp), _, rfl⟩
  | true =>
    go_wp2_with fail
    go_ret
    exact ⟨ret_bool (by simp; rfl), _, rfl⟩

theorem OwnB.cell {B g n cap : Nat} {w : World} {bs : List Int} (h : OwnB B w (.slice (some ⟨g, 0, none⟩) n cap) bs) {i : Nat} (hi : i < bs.length) :
    ∃ y, w.cell? ⟨g, i, none⟩ = some (.int .u8 y) ∧ w.frozen? ⟨g, i, none⟩ = false ∧ bs[i]? = some y := by
  obtain ⟨g1, cap1, e, _, c0, z0⟩ := h.at hi
  injection e with e1 _ e3
  injection e1 with e1
  injection e1 with e1
  subst e1 e3
  exact ⟨_, c0, z0, List.getElem?_eq_getElem hi⟩

/-- Bytes of the call's own: what a word's two bytes leave. -/
def putw (bs : List Int) (i : Nat) (x : Int) : List Int := (bs.set i (x / 256)).set (i + 1) (x % 256)
theorem putw_length (bs : List Int) (i : Nat) (x : Int) : (putw bs i x).length = bs.length := by simp [putw]
set_option maxHeartbeats 1000000 in
theorem putWord_any {B : Nat} {w : World} {g cap n : Nat} {bs : List Int} (h : OwnB B w (.slice (some ⟨g, 0, none⟩) n cap) bs) (hn : bs.length = n) {i : Nat} (hi : i + 1 < n) (hnn : n ≤ 281474976710656) {x : Int} (hx : Half x) (hB : B ≤ g) :
    Calls Try.prog 15 #[.slice (some ⟨g, 0, none⟩) n cap, .int .i64 (i : Int), .int .i64 x] w fun e w' => e = .returned (.tuple #[]) ∧ OwnB B w' (.slice (some ⟨g, 0, none⟩) n cap) (putw bs i x) ∧ Below B w w' := by
  subst hn
  obtain ⟨y0, c0, z0, -⟩ := h.cell (i := i) (by omega)
  obtain ⟨y1, c1, z1, -⟩ := h.cell (i := i + 1) hi
  obtain ⟨x0, x1⟩ := hx
  have s1 := h.stored i (x / 256)
  have s2 := (show OwnB B _ (.slice (some ⟨g, 0, none⟩) (bs.set i (x / 256)).length cap) _ from by rw [List.length_set]; exact s1).stored (i + 1) (x % 256)
  rw [List.length_set] at s2
  have HX := Lib.hid (And.intro (show OwnB B _ (.slice (some ⟨g, 0, none⟩) bs.length cap) (putw bs i x) from s2) (((Below.refl B w).setCell (p := ⟨g, i, none⟩) hB (.int .u8 (x / 256))).setCell (p := ⟨g, i + 1, none⟩) hB (.int .u8 (x % 256))))
  clear s1 s2 h
  generalize bs.length = n at *
  have i1 : (i : Int) < (n : Int) := by omega
  have i2 : (i : Int) + 1 < (n : Int) := by omega
  go_enter Try.func15, Try.ntmps15
  go_wp2
  go_end0
  exact ⟨rfl, HX.out⟩
end Go.Proofs.Ytmigfemkbdehbaa
