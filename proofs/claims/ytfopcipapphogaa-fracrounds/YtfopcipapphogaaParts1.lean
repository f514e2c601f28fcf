/- The reference's division of digits by one digit: a contract. -/
import Derived.Test.YtfopcipapphogaaParts0
namespace Go.Proofs.Ytfopcipapphogaa
open Go.RowKit

theorem val_low (n k : Nat) (g : Nat → Nat) : val (n + 1) (from_ k g) = g k + val n (from_ (k + 1) g) * 4294967296 := by
  rw [Nat.add_comm n 1, val_from 1 n (from_ k g)]
  have e : from_ 1 (from_ k g) = from_ (k + 1) g := by
    funext t
    simp only [from_]
    rw [Nat.add_assoc]
  rw [e]
  generalize val n (from_ (k + 1) g) = Y
  simp only [val, from_, Nat.pow_zero, Nat.pow_one, Nat.add_zero, Nat.zero_add, Nat.mul_one]
/-- One digit's division: so far, from the top. -/
structure OInv (w wr : World) (nx y : Nat) (f O : Nat → Nat) (k r : Nat) : Prop where
  ro : wr.rowIs w.heap.size 81 nx (fun j => .int .u32 (O j))
  so : Small nx O
  eq : val (nx - k) (from_ k f) = val (nx - k) (from_ k O) * y + r
  lt : r < y
  below : Below w.heap.size w wr
theorem OInv.start (w : World) (nx y : Nat) (f : Nat → Nat) (hy : 0 < y) : OInv w (w.alloc (.cells (madeCells #[.int .u32 0] nx) 81)) nx y f (fun _ => 0) nx 0 :=
  ⟨World.rowIs_made w _ _ _, fun j hj => by decide, by simp [val], hy, (Below.refl _ _).alloc (Nat.le_refl _) _⟩
theorem OInv.put {w wr : World} {nx y : Nat} {f O : Nat → Nat} {k r q r' : Nat} (I : OInv w wr nx y f O (k + 1) r) (hk : k < nx) (h : r * 4294967296 + f k = q * y + r') (hr : r' < y) (hq : q < 4294967296) {Z : Int} (hZ : Z = q) :
    OInv w (wr.setCell ⟨w.heap.size, k, none⟩ (.int .u32 Z)) nx y f (fun j => if j = k then q else O j) k r' := by
  refine ⟨row_put I.ro k q hZ, ?_, ?_, hr, I.below.setCell (Nat.le_refl _) _⟩
  · intro j hj
    dsimp only
    split
    · exact hq
    · exact I.so j hj
  · have e := I.eq
    rw [show nx - k = nx - (k + 1) + 1 by omega, val_low, val_low, e, if_pos rfl]
    have e2 : val (nx - (k + 1)) (from_ (k + 1) (fun j => if j = k then q else O j)) = val (nx - (k + 1)) (from_ (k + 1) O) := by
      refine val_congr fun t ht => ?_
      simp only [from_]
      rw [if_neg (by omega)]
    rw [e2]
    generalize val (nx - (k + 1)) (from_ (k + 1) O) = A
    rw [Nat.add_mul, Nat.add_mul, Nat.mul_right_comm A y]
    omega
theorem OInv.last {w wr : World} {nx y : Nat} {f O : Nat → Nat} {r : Nat} (I : OInv w wr nx y f O 0 r) : val nx O = val nx f / y ∧ r = val nx f % y := by
  have e := I.eq
  have z : ∀ g : Nat → Nat, from_ 0 g = g := fun g => by funext t; simp only [from_, Nat.zero_add]
  rw [z, z, Nat.sub_zero] at e
  have l := I.lt
  rw [e, Nat.mul_comm, Nat.mul_add_div (by omega), Nat.div_eq_of_lt l, Nat.mul_add_mod, Nat.mod_eq_of_lt l]
  exact ⟨by omega, rfl⟩

theorem row_one (w : World) (r : Nat) : (w.alloc (.cells #[.int .u32 r] 81)).rowIs w.heap.size 81 1 (fun _ => .int .u32 r) :=
  World.rowIs_alloc w #[.int .u32 r] _ _ (fun i hi => by
    have : i = 0 := by simp at hi; omega
    subst this; rfl)
set_option maxRecDepth 1000000 in
set_option maxHeartbeats 4000000 in
theorem parts_one (A A' : Option Addr) (nx c c' : Nat) (f f' : Nat → Nat) (w : World) (hd : Dig w A nx f) (hd' : Dig w A' 1 f') (hs : Small nx f) (hs' : Small 1 f') (hnx : nx ≤ 100000) (h0 : 0 < nx) (ht : f' 0 ≠ 0) :
    Calls Try.prog 85 #[.slice A nx c, .slice A' 1 c'] w (PartsRow w nx 1 (val nx f / val 1 f') (val nx f % val 1 f')) := by
  obtain ⟨b, rfl⟩ := hd.addr h0
  obtain ⟨b', rfl⟩ := hd'.addr (by omega)
  have hy := hs' 0 (by omega)
  obtain ⟨y, hyy⟩ : ∃ y, f' 0 = y := ⟨_, rfl⟩
  have ev : val 1 f' = y := by simp [val, hyy]
  rw [ev]
  rw [hyy] at hy ht
  have hmk := run_make_row' (P := Try.prog) 30 81 (.int .u32 0) 4 Try.underlying30 (by kernel_rfl) rfl .i64 .i64 nx (by omega) (by omega)
  clear ev
  go_enter Try.func85, Try.ntmps85
  go_wp2_with fail
  go_loopg [7, 8] nx (fun g s7 s8 wr => ∃ (k r : Nat) (O : Nat → Nat), k = g ∧ k ≤ nx ∧ s7 = .int .u64 r ∧ s8 = .int .i64 ((k : Int) - 1) ∧ OInv w wr nx y f O k r)
  case atStart => exact ⟨nx, 0, fun _ => 0, rfl, Nat.le_refl _, rfl, rfl, OInv.start w nx y f (by omega)⟩
  case round =>
    obtain ⟨k, r, O, rfl, hk, rfl, rfl, hI⟩ := hrel
    rcases Nat.eq_zero_or_pos k with hk0 | hk0
    · subst hk0
      obtain ⟨l1, l2⟩ := hI.last
      have hr := hI.lt
      have k1 : IntKind.u32.wrap (r : Int) = (r : Int) := by rw [IntKind.wrap_u32]; omega
      have HL := Lib.hid (And.intro l1 l2)
      have HI := Lib.hid hI
      clear hI l1 l2
      go_wp2_with fail
      have lo := HI.out.ro.lt
      exact bodyPost_ret (v := .tuple #[.slice (some ⟨w.heap.size, 0, none⟩) nx nx, .slice (some ⟨wr.heap.size, 0, none⟩) 1 1]) (by simp [results, Try.results85, go_sem]) rfl
        ⟨w.heap.size, nx, wr.heap.size, 1, O, fun _ => r, rfl, Nat.le_refl _, by omega, Nat.le_refl _, by decide, Nat.le_refl _, HI.out.below.size, HI.out.ro.alloc _, row_one wr r, HI.out.so, fun _ _ => Nat.lt_trans hr hy, HL.out.1, by simp only [val, Nat.pow_zero, Nat.mul_one, Nat.zero_add]; exact HL.out.2, HI.out.below.alloc HI.out.below.size _⟩
    · obtain ⟨j, rfl⟩ : ∃ j, k = j + 1 := ⟨k - 1, by omega⟩
      rw [show ((j + 1 : Nat) : Int) - 1 = (j : Int) by omega]
      have hr := hI.lt
      have hx := ((hd.below hI.below).cell (j := j) (by omega)).1
      have hxs := hs j (by omega)
      have hyc := ((hd'.below hI.below).cell (j := 0) (by omega)).1
      have co := hI.ro.cell (i := j) (by omega)
      have zo := hI.ro.frozen j
      rw [hyy] at hyc
      have HI := Lib.hid hI
      clear hI
      obtain ⟨x, hxx⟩ : ∃ x, f j = x := ⟨_, rfl⟩
      rw [hxx] at hx hxs
      have x1 : IntKind.u64.wrap ((r : Int) * 4294967296) = (r : Int) * 4294967296 := by rw [IntKind.wrap_u64]; omega
      obtain ⟨T, hT⟩ : ∃ T, r * 4294967296 + x = T := ⟨_, rfl⟩
      have x2 : bits .or .u64 ((r : Int) * 4294967296) (x : Int) = (T : Int) := by rw [← hT]; exact or_hi (by omega) hxs
      have x3 : IntKind.u64.wrap (x : Int) = (x : Int) := by rw [IntKind.wrap_u64]; omega
      have x4 : IntKind.u64.wrap (y : Int) = (y : Int) := by rw [IntKind.wrap_u64]; omega
      have hTb : T < 18446744073709551616 := by omega
      have hq : T / y < 4294967296 := by
        rw [Nat.div_lt_iff_lt_mul (by omega)]
        have := Nat.mul_le_mul_right 4294967296 (show r + 1 ≤ y from hr)
        omega
      have hE : r * 4294967296 + f j = T / y * y + T % y := by
        rw [hxx, hT, Nat.mul_comm, Nat.div_add_mod]
      have hM : T % y < y := Nat.mod_lt _ (by omega)
      have x5 := div_wrap (y := y) hTb
      have x6 : (T : Int) % (y : Int) = ((T % y : Nat) : Int) := by push_cast; rfl
      generalize hqq : T / y = q at hq hE x5
      generalize hrr : T % y = r' at hE hM x6
      have x7 : IntKind.u32.wrap (q : Int) = (q : Int) := by rw [IntKind.wrap_u32]; omega
      have x8 : IntKind.u64.wrap (r' : Int) = (r' : Int) := by rw [IntKind.wrap_u64]; omega
      have x9 : IntKind.u64.wrap (q : Int) = (q : Int) := by rw [IntKind.wrap_u64]; omega
      have HE := Lib.hid hE
      have z1 : ((y : Int) == 0) = false := by rw [beq_eq_false_iff_ne]; omega
      have nb : ¬ b' = w.heap.size := by have := (hd'.cell (j := 0) (by omega)).2; omega
      clear hE hT hxx hqq hrr
      go_wp2_with fail
      go_roundg j
      case measure => omega
      case rel => exact ⟨j, r', _, rfl, by omega, by rw [x6], rfl, HI.out.put (by omega) HE.out hM hq rfl⟩
end Go.Proofs.Ytfopcipapphogaa
