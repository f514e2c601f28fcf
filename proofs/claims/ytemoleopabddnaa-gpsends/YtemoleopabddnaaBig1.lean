/- The reference's Int: trim, SetUint64, SetInt64, NewInt: contracts. -/
import Derived.Test.YtemoleopabddnaaBig0
namespace Go.Proofs.Ytemoleopabddnaa
open Go.RowKit

theorem two_0 (a b : Value) : two a b 0 = a := rfl
theorem two_1 (a b : Value) : two a b 1 = b := rfl
/-- A struct that is known whole, with its second cell, then perhaps its first, written anew. -/
theorem two_set1 {w : World} {g : Nat} {t : TypeId} {a b : Value} (h : w.rowIs g t 2 (two a b)) (v : Value) : (w.setCell ⟨g, 1, none⟩ v).rowIs g t 2 (two a v) :=
  (h.set 1 v).congr fun i hi => by
    have : i = 0 ∨ i = 1 := by omega
    rcases this with rfl | rfl <;> rfl
theorem two_set0 {w : World} {g : Nat} {t : TypeId} {a b : Value} (h : w.rowIs g t 2 (two a b)) (v : Value) : (w.setCell ⟨g, 0, none⟩ v).rowIs g t 2 (two v b) :=
  (h.set 0 v).congr fun i hi => by
    have : i = 0 ∨ i = 1 := by omega
    rcases this with rfl | rfl <;> rfl

set_option maxHeartbeats 1000000 in
theorem trim_raw (g : Nat) (s : Bool) (A : Option Addr) (L c : Nat) (f : Nat → Nat) (w : World) (hg : w.rowIs g 45 2 (two (.bool s) (.slice A L c))) (hL : L ≤ c) (hc : c ≤ 9223372036854775807) (hd : Dig w A L f) (hs : Small L f) (hv : Fits (val L f)) :
    Calls Try.prog 52 #[.pointer (some ⟨g, 0, none⟩)] w fun e w' => e = .returned (.pointer (some ⟨g, 0, none⟩)) ∧ w.grownBy w' (some g) ∧ IntAt w' g (sg s (val L f)) := by
  have c0 : w.cell? ⟨g, 0, none⟩ = some (.bool s) := hg.cell (by decide)
  have c1 : w.cell? ⟨g, 1, none⟩ = some (.slice A L c) := hg.cell (by decide)
  have f0 := hg.frozen 0
  have f1 := hg.frozen 1
  go_enter Try.func52, Try.ntmps52
  go_wp2
  go_loop [3] (fun i => ∃ n : Nat, n ≤ L ∧ i = .int .i64 n ∧ ∀ j, n ≤ j → j < L → f j = 0) (fun i => (intOf i).toNat)
  case atStart => exact ⟨L, Nat.le_refl _, rfl, fun j h1 h2 => by omega⟩
  case round =>
    obtain ⟨n, hn, rfl, hz⟩ := hrel
    have hz0 := val_zeros hn hz
    have HZ := Lib.hid hz
    have HV := Lib.hid hz0
    clear hz hz0
    by_cases h0 : n = 0
    · subst h0
      go_wp2
      go_ret
      refine ⟨rfl, ?_, ?_⟩
      · exact grown_here (grown_here (World.grownBy.refl w _) 1 _) 0 _
      · refine ⟨false, A, 0, c, f, two_set0 (two_set1 hg _) _, by omega, ⟨hc, by omega⟩, fun h => by omega, fun j hj => by omega, fun h => by omega, fun _ => rfl, ?_⟩
        rw [HV.out]
        simp [sg, val]
    · obtain ⟨b, rfl⟩ := hd.addr (by omega)
      have hcl := (hd.cell (j := n - 1) (by omega)).1
      by_cases hf : f (n - 1) = 0
      · rw [hf] at hcl
        go_wp2
        go_round
        case rel =>
          refine ⟨n - 1, by omega, congrArg (Value.int IntKind.i64) (by omega), fun j h1 h2 => ?_⟩
          rcases Nat.eq_or_lt_of_le h1 with rfl | h3
          · exact hf
          · exact HZ.out j (by omega) h2
        case measure => simp [intOf]; omega
      · have hfb : (((f (n - 1) : Nat) : Int) == 0) = false := by simp; omega
        have hnb : ((n : Int) == 0) = false := by simp; omega
        go_wp2
        go_ret
        refine ⟨rfl, grown_here (World.grownBy.refl w _) 1 _, s, _, n, c, f, two_set1 hg _, by omega, ⟨hc, len_lim (f := f) (fun _ => hf) (HV.out ▸ hv)⟩, ?_, hs.le hn, fun _ => hf, fun h => absurd h h0, by rw [HV.out]⟩
        exact (hd.le hn).only hg (grown_here (World.grownBy.refl w _) 1 _)

/-- trim, where the struct's slice holds the digits of a number. -/
theorem trim_any (g : Nat) (s : Bool) (v : Value) (L : Nat) (f : Nat → Nat) (w : World) (A : Option Addr) (c : Nat) (hV : v = .slice A L c) (hg : w.rowIs g 45 2 (two (.bool s) v)) (hL : L ≤ c) (hc : c ≤ 9223372036854775807) (hd : Dig w A L f) (hs : Small L f) (hv : Fits (val L f)) :
    Calls Try.prog 52 #[.pointer (some ⟨g, 0, none⟩)] w fun e w' => e = .returned (.pointer (some ⟨g, 0, none⟩)) ∧ w.grownBy w' (some g) ∧ IntAt w' g (sg s (val L f)) := by
  subst hV
  exact trim_raw g s A L c f w hg hL hc hd hs hv

def duo (a b : Nat) : Nat → Nat := fun j => if j = 0 then a else b
theorem two_of {w : World} {g : Nat} {t : TypeId} {h : Nat → Value} (r : w.rowIs g t 2 h) (a b : Value) : ((w.setCell ⟨g, 0, none⟩ a).setCell ⟨g, 1, none⟩ b).rowIs g t 2 (two a b) :=
  ((r.set 0 a).set 1 b).congr fun i hi => by
    have : i = 0 ∨ i = 1 := by omega
    rcases this with rfl | rfl <;> rfl

theorem dig_new2 {W : World} {b x y : Nat} {X Y : Int} (hb : W.heap.size = b) (hx : X = x) (hy : Y = y) : Dig (W.alloc (.cells #[.int .u32 X, .int .u32 Y] 62)) (some ⟨b, 0, none⟩) 2 (duo x y) := fun _ => by
  subst hb hx hy
  refine ⟨_, 2, fun j => if j = 0 then .int .u32 x else .int .u32 y, rfl, Nat.le_refl _, World.rowIs_alloc W #[.int .u32 x, .int .u32 y] 62 _ ?_, ?_⟩
  · intro i hi
    have : i = 0 ∨ i = 1 := by simp at hi; omega
    rcases this with rfl | rfl <;> rfl
  · intro j hj
    have : j = 0 ∨ j = 1 := by omega
    rcases this with rfl | rfl <;> rfl

theorem duo_small (n : Nat) (hn : n < 18446744073709551616) : Small 2 (duo (n % 4294967296) (n / 4294967296)) := by
  intro j hj
  unfold duo
  split <;> omega

set_option maxHeartbeats 1000000 in
theorem setU_any (g : Nat) (n : Nat) (w : World) (hr : Room w g) (hn : n < 18446744073709551616) :
    Calls Try.prog 58 #[.pointer (some ⟨g, 0, none⟩), .int .u64 n] w fun e w' => e = .returned (.pointer (some ⟨g, 0, none⟩)) ∧ w.grownBy w' (some g) ∧ IntAt w' g n := by
  obtain ⟨h, hg⟩ := hr
  have c0 := hg.cell (i := 0) (by decide)
  have c1 := hg.cell (i := 1) (by decide)
  have f0 := hg.frozen 0
  have f1 := hg.frozen 1
  have hlt := hg.lt
  go_enter Try.func58, Try.ntmps58
  go_wp2_with fail
  refine (trim_raw g false (some ⟨w.heap.size, 0, none⟩) 2 2 (duo (n % 4294967296) (n / 4294967296)) _ ((two_of hg _ _).alloc _) (by decide) (by decide) (dig_new2 (by simp [World.setCell]) (by omega) (by omega)) (duo_small n hn) (Fits.of (val_lt (duo_small n hn)) (by decide))).mono ?_
  rintro e w' ⟨rfl, hgr, hi⟩
  go_wp2
  go_ret
  refine ⟨rfl, grown_trans (grown_alloc (grown_here (grown_here (World.grownBy.refl w _) 0 _) 1 _) _) hgr, ?_⟩
  have e : (sg false (val 2 (duo (n % 4294967296) (n / 4294967296))) : Int) = n := by simp [sg, val, duo]; omega
  rwa [e] at hi

theorem room_new (w : World) : Room (w.alloc (.cells #[.bool false, .slice none 0 0] 45)) w.heap.size :=
  ⟨two (.bool false) (.slice none 0 0), World.rowIs_alloc w #[.bool false, .slice none 0 0] _ _ (fun i hi => by
    have : i = 0 ∨ i = 1 := by simp at hi; omega
    rcases this with rfl | rfl <;> rfl)⟩
theorem Room.below {w w' : World} {g : Nat} (h : Room w g) (hb : Below w.heap.size w w') : Room w' g := by
  obtain ⟨k, hk⟩ := h
  exact ⟨k, hk.of_block (hb.block g hk.lt)⟩
theorem Room.only {w w' : World} {g k : Nat} (h : Room w g) (ho : w.grownBy w' (some k)) (hne : g ≠ k) : Room w' g := by
  obtain ⟨r, hr⟩ := h
  exact ⟨r, hr.of_block (ho.block g hr.lt (by simp [hne]))⟩
theorem Room.lt {w : World} {g : Nat} (h : Room w g) : g < w.heap.size := by
  obtain ⟨r, hr⟩ := h
  exact hr.lt

/-- SetInt64 at a number that is not below 0. -/
theorem setI_any (g : Nat) (n : Nat) (w : World) (hr : Room w g) (hn : n < 9223372036854775808) :
    Calls Try.prog 49 #[.pointer (some ⟨g, 0, none⟩), .int .i64 n] w fun e w' => e = .returned (.pointer (some ⟨g, 0, none⟩)) ∧ w.grownBy w' (some g) ∧ IntAt w' g n := by
  go_enter Try.func49, Try.ntmps49
  go_wp2_with fail
  refine (setU_any g n _ hr (by omega)).mono ?_
  rintro e w' ⟨rfl, hgr, hi⟩
  go_wp2
  go_ret
  exact ⟨rfl, hgr, hi⟩
/-- What a call that makes a number leaves: the old world lies in it, the number lies in a new block. -/
def NewInt (w : World) (z : Int) (e : Ending) (w' : World) : Prop := ∃ g : Nat, w.heap.size ≤ g ∧ e = .returned (.pointer (some ⟨g, 0, none⟩)) ∧ Below w.heap.size w w' ∧ IntAt w' g z
theorem below_of_grown {w W w' : World} {g : Nat} (h0 : Below w.heap.size w W) (h : W.grownBy w' (some g)) (hg : w.heap.size ≤ g) : Below w.heap.size w w' :=
  h0.grown h h0.size (fun k hk => by injection hk with hk; omega)
theorem newInt_any (n : Nat) (w : World) (hn : n < 9223372036854775808) :
    Calls Try.prog 33 #[.int .i64 n] w (NewInt w n) := by
  go_enter Try.func33, Try.ntmps33
  go_wp2_with fail
  refine (setI_any w.heap.size n _ (room_new w) hn).mono ?_
  rintro e w' ⟨rfl, hgr, hi⟩
  go_wp2
  go_ret
  exact ⟨_, Nat.le_refl _, rfl, below_of_grown ((Below.refl _ _).alloc (Nat.le_refl _) _) hgr (Nat.le_refl _), hi⟩
end Go.Proofs.Ytemoleopabddnaa
