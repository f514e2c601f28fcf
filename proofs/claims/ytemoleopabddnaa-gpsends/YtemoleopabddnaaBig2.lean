/- The reference's sums and differences of digits: contracts. -/
import Derived.Test.YtemoleopabddnaaBig2a
namespace Go.Proofs.Ytemoleopabddnaa
open Go.RowKit

/-- A round of sumOf: what stands so far. -/
structure SumInv (w : World) (n n' : Nat) (f f' : Nat → Nat) (k cy : Nat) (h : Nat → Nat) (wr : World) : Prop where
  carry : cy ≤ 1
  row : wr.rowIs w.heap.size 62 (n + 1) (fun j => .int .u32 (h j))
  small : Small k h
  sum : val k h + cy * 4294967296 ^ k = val k f + val (min k n') f'
  below : Below w.heap.size w wr
theorem SumInv.start (w : World) (n n' : Nat) (f f' : Nat → Nat) : SumInv w n n' f f' 0 0 (fun _ => 0) (w.alloc (.cells (madeCells #[.int .u32 0] (n + 1)) 62)) :=
  ⟨by decide, World.rowIs_made w _ _ _, fun j hj => by omega, by simp [val], (Below.refl _ _).alloc (Nat.le_refl _) _⟩
theorem SumInv.put {w : World} {n n' : Nat} {f f' : Nat → Nat} {k cy : Nat} {h : Nat → Nat} {wr : World} (I : SumInv w n n' f f' k cy h wr) {V : Int} {T : Nat} (hV : V = ((T % 4294967296 : Nat) : Int)) (hT : T ≤ 8589934591)
    (hsum : val k h + T * 4294967296 ^ k = val (k + 1) f + val (min (k + 1) n') f') :
    SumInv w n n' f f' (k + 1) (T / 4294967296) (fun j => if j = k then T % 4294967296 else h j) (wr.setCell ⟨w.heap.size, k, none⟩ (.int .u32 V)) := by
  refine ⟨by omega, row_put I.row k _ hV, ?_, ?_, I.below.setCell (Nat.le_refl _) _⟩
  · intro j hj
    dsimp only
    split
    · omega
    · exact I.small j (by omega)
  · rw [← hsum]
    simp only [val, if_true]
    rw [val_put]
    exact digit_step k T _
theorem SumInv.both {w : World} {n n' : Nat} {f f' : Nat → Nat} {k cy : Nat} {h : Nat → Nat} {wr : World} (I : SumInv w n n' f f' k cy h wr) (hk : k < n') :
    val k h + (cy + f k + f' k) * 4294967296 ^ k = val (k + 1) f + val (min (k + 1) n') f' := by
  have e := I.sum
  rw [show min k n' = k by omega] at e
  rw [show min (k + 1) n' = k + 1 by omega, Nat.add_mul, Nat.add_mul]
  simp only [val]
  omega
theorem SumInv.one {w : World} {n n' : Nat} {f f' : Nat → Nat} {k cy : Nat} {h : Nat → Nat} {wr : World} (I : SumInv w n n' f f' k cy h wr) (hk : n' ≤ k) :
    val k h + (cy + f k) * 4294967296 ^ k = val (k + 1) f + val (min (k + 1) n') f' := by
  have e := I.sum
  rw [show min k n' = n' by omega] at e
  rw [show min (k + 1) n' = n' by omega, Nat.add_mul]
  simp only [val]
  omega
theorem SumInv.last {w : World} {n n' : Nat} {f f' : Nat → Nat} {k cy : Nat} {h : Nat → Nat} {wr : World} (I : SumInv w n n' f f' k cy h wr) (hk : k = n) (hn : n' ≤ k) (hb : k ≤ 100000) :
    NewRow w (k + 1) (val k f + val n' f') (.returned (.slice (some ⟨w.heap.size, 0, none⟩) (k + 1) (k + 1))) (wr.setCell ⟨w.heap.size, k, none⟩ (.int .u32 cy)) := by
  subst hk
  have e := I.sum
  rw [show min k n' = n' by omega] at e
  have hc := I.carry
  refine ⟨w.heap.size, k + 1, fun j => if j = k then cy else h j, rfl, Nat.le_refl _, by omega, Nat.le_refl _, row_put I.row k cy rfl, ?_, ?_, I.below.setCell (Nat.le_refl _) _⟩
  · intro j hj
    dsimp only
    split
    · omega
    · exact I.small j (by omega)
  · simp only [val, if_true]
    rw [val_put]
    omega
set_option maxHeartbeats 2000000 in
theorem sum_ge (A A' : Option Addr) (n n' c c' : Nat) (f f' : Nat → Nat) (w : World) (hd : Dig w A n f) (hd' : Dig w A' n' f') (hs : Small n f) (hs' : Small n' f') (hn : n ≤ 100000) (hn' : n' ≤ 100000) (hlt : n' ≤ n) :
    Calls Try.prog 53 #[.slice A n c, .slice A' n' c'] w (NewRow w (n + 1) (val n f + val n' f')) := by
  have hmk := run_make_row' (P := Try.prog) 43 62 (.int .u32 0) 4 Try.underlying43 (by kernel_rfl) rfl .i64 .i64 (n + 1) (by omega) (by omega)
  have ec : ((n + 1 : Nat) : Int) = (n : Int) + 1 := by omega
  rw [ec] at hmk
  clear ec
  go_enter Try.func53, Try.ntmps53
  go_wp2
  go_loopw [6, 22] (fun cv iv wr => ∃ (k cy : Nat) (h : Nat → Nat), k ≤ n ∧ iv = .int .i64 k ∧ cv = .int .u64 cy ∧ SumInv w n n' f f' k cy h wr) (fun _ iv _ => n - (intOf iv).toNat)
  case atStart => exact ⟨0, 0, fun _ => 0, Nat.zero_le _, rfl, rfl, SumInv.start w n n' f f'⟩
  case round =>
    obtain ⟨k, cy, h, hk, rfl, rfl, hI⟩ := hrel
    have HI := Lib.hid hI
    have hc1 := hI.carry
    have hfz := hI.row.frozen k
    have hcl := hI.row.cell (i := k) (by omega)
    have hbw := hI.below
    clear hI
    by_cases hlk : k < n
    · obtain ⟨b, rfl⟩ := hd.addr (by omega)
      have hx := ((hd.below hbw).cell hlk).1
      have hxs := hs k hlk
      by_cases hyk : k < n'
      · obtain ⟨b', rfl⟩ := hd'.addr (by omega)
        have hy := ((hd'.below hbw).cell hyk).1
        have hys := hs' k hyk
        go_wp2
        go_roundw
        case rel => exact ⟨k + 1, (cy + f k + f' k) / 4294967296, _, by omega, by go_num, congrArg (Value.int IntKind.u64) (by omega), HI.out.put (T := cy + f k + f' k) (by omega) (by omega) (HI.out.both hyk)⟩
        case measure => simp [intOf]; omega
      · go_wp2
        go_roundw
        case rel => exact ⟨k + 1, (cy + f k) / 4294967296, _, by omega, by go_num, congrArg (Value.int IntKind.u64) (by omega), HI.out.put (T := cy + f k) (by omega) (by omega) (HI.out.one (by omega))⟩
        case measure => simp [intOf]; omega
    · have hkn : k = n := by omega
      have HN := HI.out.last hkn (by omega) (by omega)
      subst hkn
      go_wp2
      go_ret
      exact HN
set_option maxHeartbeats 2000000 in
theorem sum_lt (A A' : Option Addr) (n n' c c' : Nat) (f f' : Nat → Nat) (w : World) (hd : Dig w A n f) (hd' : Dig w A' n' f') (hs : Small n f) (hs' : Small n' f') (hn : n ≤ 100000) (hn' : n' ≤ 100000) (hlt : n < n') :
    Calls Try.prog 53 #[.slice A n c, .slice A' n' c'] w (NewRow w (n' + 1) (val n f + val n' f')) := by
  have hmk := run_make_row' (P := Try.prog) 43 62 (.int .u32 0) 4 Try.underlying43 (by kernel_rfl) rfl .i64 .i64 (n' + 1) (by omega) (by omega)
  have ec : ((n' + 1 : Nat) : Int) = (n' : Int) + 1 := by omega
  rw [ec] at hmk
  clear ec
  go_enter Try.func53, Try.ntmps53
  go_wp2
  go_loopw [6, 22] (fun cv iv wr => ∃ (k cy : Nat) (h : Nat → Nat), k ≤ n' ∧ iv = .int .i64 k ∧ cv = .int .u64 cy ∧ SumInv w n' n f' f k cy h wr) (fun _ iv _ => n' - (intOf iv).toNat)
  case atStart => exact ⟨0, 0, fun _ => 0, Nat.zero_le _, rfl, rfl, SumInv.start w n' n f' f⟩
  case round =>
    obtain ⟨k, cy, h, hk, rfl, rfl, hI⟩ := hrel
    have HI := Lib.hid hI
    have hc1 := hI.carry
    have hfz := hI.row.frozen k
    have hcl := hI.row.cell (i := k) (by omega)
    have hbw := hI.below
    clear hI
    by_cases hlk : k < n'
    · obtain ⟨b, rfl⟩ := hd'.addr (by omega)
      have hx := ((hd'.below hbw).cell hlk).1
      have hxs := hs' k hlk
      by_cases hyk : k < n
      · obtain ⟨b', rfl⟩ := hd.addr (by omega)
        have hy := ((hd.below hbw).cell hyk).1
        have hys := hs k hyk
        go_wp2
        go_roundw
        case rel => exact ⟨k + 1, (cy + f' k + f k) / 4294967296, _, by omega, by go_num, congrArg (Value.int IntKind.u64) (by omega), HI.out.put (T := cy + f' k + f k) (by omega) (by omega) (HI.out.both hyk)⟩
        case measure => simp [intOf]; omega
      · go_wp2
        go_roundw
        case rel => exact ⟨k + 1, (cy + f' k) / 4294967296, _, by omega, by go_num, congrArg (Value.int IntKind.u64) (by omega), HI.out.put (T := cy + f' k) (by omega) (by omega) (HI.out.one (by omega))⟩
        case measure => simp [intOf]; omega
    · have hkn : k = n' := by omega
      have HN := HI.out.last hkn (by omega) (by omega)
      subst hkn
      go_wp2
      go_ret
      rw [Nat.add_comm (val n f)]; exact HN
theorem sum_any (A A' : Option Addr) (n n' c c' : Nat) (f f' : Nat → Nat) (w : World) (hd : Dig w A n f) (hd' : Dig w A' n' f') (hs : Small n f) (hs' : Small n' f') (hn : n ≤ 100000) (hn' : n' ≤ 100000) :
    Calls Try.prog 53 #[.slice A n c, .slice A' n' c'] w fun e w' => ∃ L, NewRow w L (val n f + val n' f') e w' := by
  by_cases h : n < n'
  · exact (sum_lt A A' n n' c c' f f' w hd hd' hs hs' hn hn' h).mono fun _ _ h => ⟨_, h⟩
  · exact (sum_ge A A' n n' c c' f f' w hd hd' hs hs' hn hn' (by omega)).mono fun _ _ h => ⟨_, h⟩
end Go.Proofs.Ytemoleopabddnaa
