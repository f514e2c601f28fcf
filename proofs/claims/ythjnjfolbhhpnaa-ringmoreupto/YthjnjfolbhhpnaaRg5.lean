/- ring: a queue in memory; fits, drop, out, in, perform. -/
import Derived.Test.YthjnjfolbhhpnaaRg4
import Derived.Test.YthjnjfolbhhpnaaIn2
namespace Go.Proofs.Ythjnjfolbhhpnaa
open Go.RowKit Go.Maps

def five (a b c d e : Value) : Nat → Value := fun j => if j = 0 then a else if j = 1 then b else if j = 2 then c else if j = 3 then d else e
/-- Block b is a queue with its bytes. -/
structure LineAt (B : Nat) (w : World) (b : Nat) (s : Qu) (A : Option Addr) (cap : Nat) : Prop where
  row : w.rowIs b 45 5 (five (.slice A s.has.length cap) (.int .i64 s.most) (.int .i64 s.mb) (.int .i64 s.dr) (.int .i64 (tot s.has)))
  fifo : Fifo B w A s.has cap
  nab : ¬ Ab A b
namespace LineAt
variable {B : Nat} {w w' : World} {b : Nat} {s : Qu} {A : Option Addr} {cap : Nat}
theorem c0 (h : LineAt B w b s A cap) : w.cell? ⟨b, 0, none⟩ = some (.slice A s.has.length cap) := h.row.cell (by omega)
theorem c1 (h : LineAt B w b s A cap) : w.cell? ⟨b, 1, none⟩ = some (.int .i64 s.most) := h.row.cell (by omega)
theorem c2 (h : LineAt B w b s A cap) : w.cell? ⟨b, 2, none⟩ = some (.int .i64 s.mb) := h.row.cell (by omega)
theorem c3 (h : LineAt B w b s A cap) : w.cell? ⟨b, 3, none⟩ = some (.int .i64 s.dr) := h.row.cell (by omega)
theorem c4 (h : LineAt B w b s A cap) : w.cell? ⟨b, 4, none⟩ = some (.int .i64 (tot s.has)) := h.row.cell (by omega)
theorem fz (h : LineAt B w b s A cap) (j : Nat) : w.frozen? ⟨b, j, none⟩ = false := h.row.frozen j
theorem lt (h : LineAt B w b s A cap) : b < w.heap.size := h.row.lt
theorem below (h : LineAt B w b s A cap) (hb : Below w.heap.size w w') : LineAt B w' b s A cap := ⟨h.row.of_block (hb.block b h.lt), h.fifo.below hb, h.nab⟩
end LineAt

theorem fits_val (s : Qu) (n : Int) : s.fits n = (decide ((s.has.length : Int) < s.most) && decide (tot s.has + n ≤ s.mb)) := rfl

set_option maxRecDepth 100000 in
set_option maxHeartbeats 4000000 in
theorem fits_any {B : Nat} {w : World} {b : Nat} {s : Qu} {A : Option Addr} {cap : Nat} (h : LineAt B w b s A cap) (ok : s.Ok) {n : Int} (hn : bad n = false) :
    Calls Try.prog 29 #[.pointer (some ⟨b, 0, none⟩), .int .i64 n] w fun e w' => e = .returned (.bool (s.fits n)) ∧ ∃ k, w' = w.drewN k := by
  have h0 := h.c0
  have h1 := h.c1
  have h2 := h.c2
  have h4 := h.c4
  have HX := Lib.hid (fits_val s n)
  have hw : IntKind.i64.wrap (tot s.has + n) = tot s.has + n := by
    have := bad_false.1 hn
    have := tot_pos ok.sizes
    have := ok.tot
    have := ok.mb
    simp [IntKind.wrap, IntKind.bits, IntKind.signed]
    omega
  clear h ok hn
  generalize s.fits n = R at *
  generalize s.has.length = len at *
  generalize tot s.has = T at *
  by_cases c : (len : Int) < s.most
  · have c' : decide ((len : Int) < s.most) = true := decide_eq_true c
    rw [c'] at HX
    go_enter Try.func29, Try.ntmps29
    go_upto_region 1 with fail
    go_quiet (fail)
    go_wp2_with fail
    go_ret
    exact ⟨ret_bool HX.out.symm, _, rfl⟩
  · have c' : decide ((len : Int) < s.most) = false := decide_eq_false c
    rw [c'] at HX
    clear c
    go_enter Try.func29, Try.ntmps29
    go_upto_region 1 with fail
    go_quiet (fail)
    go_wp2_with fail
    go_ret
    exact ⟨ret_bool HX.out.symm, _, rfl⟩

def dropE (s : Qu) : Int := if s.dr = 1099511627776 then 4 else 0
def dropW (w : World) (b : Nat) (s : Qu) : World := if s.dr = 1099511627776 then w else w.setCell ⟨b, 3, none⟩ (.int .i64 (s.dr + 1))
set_option maxRecDepth 100000 in
set_option maxHeartbeats 4000000 in
theorem drop_any {B : Nat} {w : World} {b : Nat} {s : Qu} {A : Option Addr} {cap : Nat} (h : LineAt B w b s A cap) (ok : s.Ok) :
    Calls Try.prog 30 #[.pointer (some ⟨b, 0, none⟩)] w fun e w' => e = .returned (.int .i64 (dropE s)) ∧ dropW w b s = w' := by
  have h3 := h.c3
  have f3 := h.fz 3
  have b1 := ok.dr.1
  have b2 := ok.dr.2
  clear h ok
  unfold dropE dropW
  obtain ⟨d, hd⟩ : ∃ d, s.dr = d := ⟨_, rfl⟩
  rw [hd] at h3 b1 b2 ⊢
  clear hd
  by_cases c : d = 1099511627776
  · subst c
    rw [if_pos rfl, if_pos rfl]
    clear b1 b2
    go_enter Try.func30, Try.ntmps30
    go_wp2_with fail
    go_ret
    exact ⟨rfl, rfl⟩
  · rw [if_neg c, if_neg c]
    have c' : (d == 1099511627776) = false := by simpa using c
    clear c
    go_enter Try.func30, Try.ntmps30
    go_wp2_with fail
    go_ret
    exact ⟨rfl, rfl⟩
end Go.Proofs.Ythjnjfolbhhpnaa
