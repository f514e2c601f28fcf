/- The reference's Rat: how it lies in memory; Set, Sign, Neg of its parts; Num, Denom: contracts. -/
import Derived.Test.YtemoleopabddnaaRat0
namespace Go.Proofs.Ytemoleopabddnaa
open Go.RowKit

/-- Sign s and the slice (A, n, c) are the number z. -/
def NumIs (w : World) (s : Bool) (A : Option Addr) (n c : Nat) (z : Int) : Prop :=
  ∃ f : Nat → Nat, n ≤ c ∧ (c ≤ 9223372036854775807 ∧ n ≤ 100000) ∧ Dig w A n f ∧ Small n f ∧ (0 < n → f (n - 1) ≠ 0) ∧ (n = 0 → s = false) ∧ z = sg s (val n f)
theorem IntAt.num {w : World} {g : Nat} {z : Int} (h : IntAt w g z) : ∃ s A n c, w.rowIs g 45 2 (two (.bool s) (.slice A n c)) ∧ NumIs w s A n c z := by
  obtain ⟨s, A, n, c, f, hr, h⟩ := h
  exact ⟨s, A, n, c, hr, f, h⟩
theorem NumIs.int {w : World} {s : Bool} {A : Option Addr} {n c : Nat} {z : Int} {g : Nat} (h : NumIs w s A n c z) (hr : w.rowIs g 45 2 (two (.bool s) (.slice A n c))) : IntAt w g z := by
  obtain ⟨f, h⟩ := h
  exact ⟨s, A, n, c, f, hr, h⟩
theorem NumIs.below {w w' : World} {s : Bool} {A : Option Addr} {n c : Nat} {z : Int} (h : NumIs w s A n c z) (hb : Below w.heap.size w w') : NumIs w' s A n c z := by
  obtain ⟨f, h1, h2, hd, h3⟩ := h
  exact ⟨f, h1, h2, hd.below hb, h3⟩
theorem Dig.set {w : World} {A : Option Addr} {n g k : Nat} {f : Nat → Nat} {t : TypeId} {h : Nat → Value} (d : Dig w A n f) (hg : w.rowIs g t k h) (ht : 62 ≠ t) (o : Nat) (v : Value) : Dig (w.setCell ⟨g, o, none⟩ v) A n f := fun h0 => by
  obtain ⟨b, m, F, hA, hk, hr, hf⟩ := d h0
  exact ⟨b, m, F, hA, hk, hr.setOther (a := ⟨g, o, none⟩) (row_ne hr hg ht) v, hf⟩
theorem NumIs.set {w : World} {s : Bool} {A : Option Addr} {n c g k : Nat} {z : Int} {t : TypeId} {h : Nat → Value} (d : NumIs w s A n c z) (hg : w.rowIs g t k h) (ht : 62 ≠ t) (o : Nat) (v : Value) : NumIs (w.setCell ⟨g, o, none⟩ v) s A n c z := by
  obtain ⟨f, h1, h2, hd, h3⟩ := d
  exact ⟨f, h1, h2, hd.set hg ht o v, h3⟩
theorem NumIs.minus {w : World} {s : Bool} {A : Option Addr} {n c : Nat} {z : Int} (h : NumIs w s A n c z) : s = decide (z < 0) := by
  obtain ⟨f, _, _, _, _, ht, hz, rfl⟩ := h
  exact sg_neg ht hz
theorem NumIs.len {w : World} {s : Bool} {A : Option Addr} {n c : Nat} {z : Int} (h : NumIs w s A n c z) : n = 0 ↔ z = 0 := by
  obtain ⟨f, _, _, _, _, ht, hz, rfl⟩ := h
  constructor
  · rintro rfl
    cases s <;> simp [sg, val]
  · intro e
    rcases Nat.eq_zero_or_pos n with h | h
    · exact h
    · have := val_ge h (ht h)
      have p : 0 < 4294967296 ^ (n - 1) := Nat.pow_pos (by decide)
      cases s <;> simp [sg] at e <;> omega

/-- Set, of a number anywhere into a place anywhere. -/
theorem set_num (gz oz gx ox : Nat) (s : Bool) (A : Option Addr) (n c : Nat) (x : Int) (w : World) (hne : gx ≠ gz) (c0 : w.cell? ⟨gx, ox, none⟩ = some (.bool s)) (c1 : w.cell? ⟨gx, ox + 1, none⟩ = some (.slice A n c)) (lx : gx < w.heap.size)
    (lz : gz < w.heap.size) {v0 v1 : Value} (z0 : w.cell? ⟨gz, oz, none⟩ = some v0) (z1 : w.cell? ⟨gz, oz + 1, none⟩ = some v1) (y0 : w.frozen? ⟨gz, oz, none⟩ = false) (y1 : w.frozen? ⟨gz, oz + 1, none⟩ = false) (h : NumIs w s A n c x) :
    Calls Try.prog 48 #[.pointer (some ⟨gz, oz, none⟩), .pointer (some ⟨gx, ox, none⟩)] w fun e w' =>
      e = .returned (.pointer (some ⟨gz, oz, none⟩)) ∧ ∃ (w1 : World) (A' : Option Addr) (c' : Nat), w' = (w1.setCell ⟨gz, oz, none⟩ (.bool s)).setCell ⟨gz, oz + 1, none⟩ (.slice A' n c') ∧ Below w.heap.size w w1 ∧ NumIs w1 s A' n c' x := by
  obtain ⟨f, h1, h2, hd, hs, ht, hz, ev⟩ := h
  rcases Nat.eq_zero_or_pos n with h0 | h0
  · subst h0
    have := hz rfl
    subst this
    refine (setAt_zero gz oz gx ox A c w hne c0 c1 lx lz z0 z1 y0 y1).mono ?_
    rintro e w' ⟨he, w1, A', c', hw, hb, hd', hc1, hc2⟩
    exact ⟨he, w1, A', c', hw, hb, fun _ => 0, hc1, ⟨hc2, by decide⟩, hd', fun j hj => by omega, fun h => by omega, fun _ => rfl, by rw [ev]; rfl⟩
  · obtain ⟨b, rfl⟩ := hd.addr h0
    refine (setAt_raw gz oz gx ox s b n c f w hne c0 c1 lx lz z0 z1 y0 y1 hd h0 h2.2).mono ?_
    rintro e w' ⟨he, w1, A', c', hw, hb, hd', hc1, hc2⟩
    exact ⟨he, w1, A', c', hw, hb, f, hc1, ⟨hc2, h2.2⟩, hd', hs, ht, hz, ev⟩

/-- Set into a number of its own. -/
theorem set_to_int (gz gx ox : Nat) (s : Bool) (A : Option Addr) (n c : Nat) (x : Int) (w : World) (hne : gx ≠ gz) (c0 : w.cell? ⟨gx, ox, none⟩ = some (.bool s)) (c1 : w.cell? ⟨gx, ox + 1, none⟩ = some (.slice A n c)) (lx : gx < w.heap.size) (hz : Room w gz) (h : NumIs w s A n c x) :
    Calls Try.prog 48 #[.pointer (some ⟨gz, 0, none⟩), .pointer (some ⟨gx, ox, none⟩)] w fun e w' =>
      e = .returned (.pointer (some ⟨gz, 0, none⟩)) ∧ w.grownBy w' (some gz) ∧ IntAt w' gz x := by
  obtain ⟨k0, hz0⟩ := hz
  refine (set_num gz 0 gx ox s A n c x w hne c0 c1 lx hz0.lt (hz0.cell (i := 0) (by decide)) (hz0.cell (i := 1) (by decide)) (hz0.frozen 0) (hz0.frozen 1) h).mono ?_
  rintro e w' ⟨he, w1, A', c', rfl, hb, hn⟩
  have hz1 := hz0.of_block (hb.block gz hz0.lt)
  exact ⟨he, grown_trans (grown_of_below hb) (grown_here (grown_here (World.grownBy.refl _ _) 0 _) 1 _), ((hn.set hz1 (by decide) 0 _).set (hz1.set 0 _) (by decide) 1 _).int (two_of hz1 _ _)⟩

/-- Neg into a number of its own. -/
theorem neg_part (gz gx ox : Nat) (s : Bool) (A : Option Addr) (n c : Nat) (x : Int) (w : World) (hne : gx ≠ gz) (c0 : w.cell? ⟨gx, ox, none⟩ = some (.bool s)) (c1 : w.cell? ⟨gx, ox + 1, none⟩ = some (.slice A n c)) (lx : gx < w.heap.size) (hz : Room w gz) (h : NumIs w s A n c x) :
    Calls Try.prog 47 #[.pointer (some ⟨gz, 0, none⟩), .pointer (some ⟨gx, ox, none⟩)] w fun e w' =>
      e = .returned (.pointer (some ⟨gz, 0, none⟩)) ∧ w.grownBy w' (some gz) ∧ IntAt w' gz (-x) := by
  go_enter Try.func47, Try.ntmps47
  go_wp2_with fail
  refine (set_to_int gz gx ox s A n c x _ hne c0 c1 lx hz h).mono ?_
  rintro e w1 ⟨rfl, hgr, s, A, n, c, f, hr, h1, h2, hd, hs, ht, hz1, rfl⟩
  have c0 : w1.cell? ⟨gz, 0, none⟩ = some (.bool s) := hr.cell (by decide)
  have c1 : w1.cell? ⟨gz, 1, none⟩ = some (.slice A n c) := hr.cell (by decide)
  have y0 := hr.frozen 0
  cases s
  · by_cases h0 : n = 0
    · subst h0
      go_wp2
      go_ret
      exact ⟨rfl, grown_here hgr 0 _, false, A, 0, c, f, two_set0 hr _, h1, h2, hd.only hr (grown_here (World.grownBy.refl w1 _) 0 _), hs, ht, fun _ => rfl, by simp [sg, val]⟩
    · have hp : 0 < n := by omega
      go_wp2
      go_ret
      exact ⟨rfl, grown_here hgr 0 _, true, A, n, c, f, two_set0 hr _, h1, h2, hd.only hr (grown_here (World.grownBy.refl w1 _) 0 _), hs, ht, fun h => absurd h h0, by simp [sg]⟩
  · go_wp2
    go_ret
    exact ⟨rfl, grown_here hgr 0 _, false, A, n, c, f, two_set0 hr _, h1, h2, hd.only hr (grown_here (World.grownBy.refl w1 _) 0 _), hs, ht, fun _ => rfl, by simp [sg]⟩

/-- Sign, of a number anywhere. -/
theorem sign_part (gx ox : Nat) (s : Bool) (A : Option Addr) (n c : Nat) (x : Int) (w : World) (c0 : w.cell? ⟨gx, ox, none⟩ = some (.bool s)) (c1 : w.cell? ⟨gx, ox + 1, none⟩ = some (.slice A n c)) (h : NumIs w s A n c x) :
    Calls Try.prog 38 #[.pointer (some ⟨gx, ox, none⟩)] w fun e w' => e = .returned (.int .i64 (cmpI x 0)) ∧ w = w' := by
  have hm := h.minus
  have hl := h.len
  clear h
  rcases Int.lt_trichotomy x 0 with k | k | k
  · have hn : ((n : Int) == 0) = false := by simp; omega
    rw [show cmpI x 0 = -1 by unfold cmpI; rw [if_pos k]]
    rw [decide_eq_true k] at hm
    subst hm
    clear hl
    go_enter Try.func38, Try.ntmps38
    go_wp2
    go_ret
    exact ⟨rfl, rfl⟩
  · obtain rfl := hl.2 k
    rw [show cmpI x 0 = 0 by unfold cmpI; rw [if_neg (by omega), if_neg (by omega)]]
    go_enter Try.func38, Try.ntmps38
    go_wp2
    go_ret
    exact ⟨rfl, rfl⟩
  · have hn : ((n : Int) == 0) = false := by simp; omega
    rw [show cmpI x 0 = 1 by unfold cmpI; rw [if_neg (by omega), if_pos (by omega)]]
    rw [decide_eq_false (by omega)] at hm
    subst hm
    clear hl
    go_enter Try.func38, Try.ntmps38
    go_wp2
    go_ret
    exact ⟨rfl, rfl⟩

/-! ### Rat -/
def four (a b c d : Value) : Nat → Value := fun j => if j = 0 then a else if j = 1 then b else if j = 2 then c else d
/-- The fraction x / y lies in block g; what is through 1 may have no second number. -/
def RatAt (w : World) (g : Nat) (x y : Int) : Prop :=
  ∃ (s : Bool) (A : Option Addr) (n c : Nat) (s' : Bool) (A' : Option Addr) (n' c' : Nat), w.rowIs g 47 4 (four (.bool s) (.slice A n c) (.bool s') (.slice A' n' c')) ∧ NumIs w s A n c x ∧ (NumIs w s' A' n' c' y ∨ (NumIs w s' A' n' c' 0 ∧ y = 1))
def RatRoom (w : World) (g : Nat) : Prop := ∃ h : Nat → Value, w.rowIs g 47 4 h
theorem RatAt.room {w : World} {g : Nat} {x y : Int} (h : RatAt w g x y) : RatRoom w g := by
  obtain ⟨_, _, _, _, _, _, _, _, hr, _⟩ := h
  exact ⟨_, hr⟩
theorem RatRoom.lt {w : World} {g : Nat} (h : RatRoom w g) : g < w.heap.size := by
  obtain ⟨_, hr⟩ := h
  exact hr.lt
theorem RatRoom.below {w w' : World} {g : Nat} (h : RatRoom w g) (hb : Below w.heap.size w w') : RatRoom w' g := by
  obtain ⟨k, hk⟩ := h
  exact ⟨k, hk.of_block (hb.block g hk.lt)⟩
theorem RatAt.below {w w' : World} {g : Nat} {x y : Int} (h : RatAt w g x y) (hb : Below w.heap.size w w') : RatAt w' g x y := by
  obtain ⟨s, A, n, c, s', A', n', c', hr, h1, h2⟩ := h
  exact ⟨s, A, n, c, s', A', n', c', hr.of_block (hb.block g hr.lt), h1.below hb, h2.imp (fun h => h.below hb) (fun h => ⟨h.1.below hb, h.2⟩)⟩
theorem rat_new (w : World) : RatRoom (w.alloc (.cells #[.bool false, .slice none 0 0, .bool false, .slice none 0 0] 47)) w.heap.size :=
  ⟨four (.bool false) (.slice none 0 0) (.bool false) (.slice none 0 0), World.rowIs_alloc w #[.bool false, .slice none 0 0, .bool false, .slice none 0 0] _ _ (fun i hi => by
    have : i = 0 ∨ i = 1 ∨ i = 2 ∨ i = 3 := by simp at hi; omega
    rcases this with rfl | rfl | rfl | rfl <;> rfl)⟩

theorem num_zero (w : World) : NumIs w false none 0 0 0 := ⟨fun _ => 0, Nat.le_refl _, ⟨by decide, by decide⟩, fun h => by omega, fun j hj => by omega, fun h => by omega, fun _ => rfl, rfl⟩
/-- A new one is nothing. -/
theorem rat_zero (w : World) : RatAt (w.alloc (.cells #[.bool false, .slice none 0 0, .bool false, .slice none 0 0] 47)) w.heap.size 0 1 :=
  ⟨false, none, 0, 0, false, none, 0, 0, World.rowIs_alloc w #[.bool false, .slice none 0 0, .bool false, .slice none 0 0] _ _ (fun i hi => by
    have : i = 0 ∨ i = 1 ∨ i = 2 ∨ i = 3 := by simp at hi; omega
    rcases this with rfl | rfl | rfl | rfl <;> rfl), num_zero _, .inr ⟨num_zero _, rfl⟩⟩

theorem num_any (gx : Nat) (x y : Int) (w : World) (hx : RatAt w gx x y) : Calls Try.prog 39 #[.pointer (some ⟨gx, 0, none⟩)] w (NewInt w x) := by
  obtain ⟨s, A, n, c, s', A', n', c', hr, h1, _⟩ := hx
  have b0 := (Below.refl w.heap.size w).alloc (Nat.le_refl _) (.cells #[.bool false, .slice none 0 0] 45)
  have hr0 := hr.of_block (b0.block gx hr.lt)
  have lx := hr.lt
  go_enter Try.func39, Try.ntmps39
  go_wp2_with fail
  refine (set_to_int w.heap.size gx 0 s A n c x _ (by omega) (hr0.cell (i := 0) (by decide)) (hr0.cell (i := 1) (by decide)) hr0.lt (room_new w) (h1.below b0)).mono ?_
  rintro e w' ⟨rfl, hgr, hi⟩
  go_wp2
  go_ret
  exact ⟨_, Nat.le_refl _, rfl, below_of_grown b0 hgr (Nat.le_refl _), hi⟩
theorem denom_any (gx : Nat) (x y : Int) (w : World) (hx : RatAt w gx x y) (hy : 0 < y) : Calls Try.prog 40 #[.pointer (some ⟨gx, 0, none⟩)] w (NewInt w y) := by
  obtain ⟨s, A, n, c, s', A', n', c', hr, _, h1 | ⟨h1, rfl⟩⟩ := hx
  rotate_left
  · have lx := hr.lt
    have hs := sign_part gx 2 s' A' n' c' 0 w (hr.cell (i := 2) (by decide)) (hr.cell (i := 3) (by decide)) h1
    rw [show cmpI 0 0 = 0 by decide] at hs
    go_enter Try.func40, Try.ntmps40
    go_wp2_with fail
    refine hs.mono ?_
    rintro e w1 ⟨rfl, hw⟩
    subst hw
    go_wp2_with fail
    refine (newInt_any 1 _ (by decide)).mono ?_
    rintro e w1 ⟨g, hg, rfl, hb, hi⟩
    go_wp2
    go_ret
    exact ⟨g, hg, rfl, hb, hi⟩
  have b0 := (Below.refl w.heap.size w).alloc (Nat.le_refl _) (.cells #[.bool false, .slice none 0 0] 45)
  have hr0 := hr.of_block (b0.block gx hr.lt)
  have lx := hr.lt
  have hs := sign_part gx 2 s' A' n' c' y w (hr.cell (i := 2) (by decide)) (hr.cell (i := 3) (by decide)) h1
  rw [show cmpI y 0 = 1 by unfold cmpI; rw [if_neg (by omega), if_pos (by omega)]] at hs
  go_enter Try.func40, Try.ntmps40
  go_wp2_with fail
  refine hs.mono ?_
  rintro e w1 ⟨rfl, hw⟩
  subst hw
  go_wp2_with fail
  refine (set_to_int w.heap.size gx 2 s' A' n' c' y _ (by omega) (hr0.cell (i := 2) (by decide)) (hr0.cell (i := 3) (by decide)) hr0.lt (room_new w) (h1.below b0)).mono ?_
  rintro e w' ⟨rfl, hgr, hi⟩
  go_wp2
  go_ret
  exact ⟨_, Nat.le_refl _, rfl, below_of_grown b0 hgr (Nat.le_refl _), hi⟩
theorem rsign_any (gx : Nat) (x y : Int) (w : World) (hx : RatAt w gx x y) : Calls Try.prog 26 #[.pointer (some ⟨gx, 0, none⟩)] w fun e w' => e = .returned (.int .i64 (cmpI x 0)) ∧ w = w' := by
  obtain ⟨s, A, n, c, s', A', n', c', hr, h1, _⟩ := hx
  have hs := sign_part gx 0 s A n c x w (hr.cell (i := 0) (by decide)) (hr.cell (i := 1) (by decide)) h1
  go_enter Try.func26, Try.ntmps26
  go_wp2_with fail
  refine hs.mono ?_
  rintro e w1 ⟨rfl, hw⟩
  subst hw
  go_wp2
  go_ret
  exact ⟨rfl, rfl⟩
end Go.Proofs.Ytemoleopabddnaa
