/- ScfqLight: two alike take turns. -/
import Derived.Test.YtobkepipmmkboaaSc10
import Derived.Test.YtobkepipmmkboaaSlM
namespace Go.Proofs.Ytobkepipmmkboaa
open Go.RowKit Go.Maps

theorem t3_fop : T3 40 23 := ⟨by kernel_rfl, by kernel_rfl, fun w => by kernel_rfl, by
  have h : (Try.prog.info? 40).map (fun i => (i.zero, i.size, i.bytes)) = some (some (.agg #[.int .i64 0, .int .i64 0, .int .i64 0]), 3, 24) := by kernel_rfl
  obtain ⟨i, h1, h2⟩ := Option.map_eq_some_iff.1 h
  simp only [Prod.mk.injEq] at h2
  exact ⟨i, h1, h2⟩⟩
/-- The operations so far. -/
def OpsIn (w wr : World) (v : Value) (os : List (Int × Int × Int)) : Prop := OwnT 40 w.heap.size wr v os ∧ Below w.heap.size w wr
theorem OpsIn.push {w wr : World} {v : Value} {os : List (Int × Int × Int)} (h : OpsIn w wr v os) (hn : os.length < 1000) (x y z : Int) : ∃ v' W, (∀ ty, (Builtin.append_ #[23, 23] ty #[v, .slice (some ⟨wr.heap.size, 0, none⟩) 1 1]).run Try.prog (wr.alloc (.cells #[.int .i64 x, .int .i64 y, .int .i64 z] 40)) = .ok v' W) ∧ OpsIn w W v' (os ++ [(x, y, z)]) := by
  obtain ⟨v', W, hr, ho, hb⟩ := three_append t3_fop h.1 x y z h.2.size (by omega)
  exact ⟨v', W, hr, ho, h.2.trans hb⟩
theorem play_light {b : Int} (hb : 1 ≤ b ∧ b ≤ 1500) {m : Nat} (hm : m ≤ 50) : playErr [3, 3] (lightOps b m m (2 * m)) = 0 ∧ playS [3, 3] (lightOps b m m (2 * m)) = turns b m := by
  have e : playErr [3, 3] (lightOps b m m (2 * m)) = 0 := by
    unfold playErr
    rw [if_neg (by decide), if_pos (by rw [lightOps_length]; omega)]
  refine ⟨e, ?_⟩
  unfold playS
  rw [if_pos e]
  exact light_all hb m
set_option maxRecDepth 100000 in
set_option maxHeartbeats 16000000 in
theorem scfqLight_law {w : World} (b : Int) (a : Int) :
    Calls Try.prog 6 #[.int .i64 b, .int .i64 a] w fun e w' => e = .returned (.bool true) ∧ Below w.heap.size w w' := by
  have HA := Lib.hid (alive15_any w)
  by_cases c1 : b < 1
  · have d1 : decide (b < 1) = true := decide_eq_true c1
    clear c1
    go_enter Try.func6, Try.ntmps6
    go_wp2_with fail
    refine HA.out.mono ?_
    rintro e w1 ⟨rfl, hb⟩
    have H1 := Lib.hid hb
    clear hb HA
    go_wp2_with fail
    go_ret
    exact ⟨rfl, H1.out⟩
  have d1 : decide (b < 1) = false := decide_eq_false c1
  by_cases c2 : 1500 < b
  · have d2 : decide (1500 < b) = true := decide_eq_true c2
    clear c1 c2
    go_enter Try.func6, Try.ntmps6
    go_wp2_with fail
    refine HA.out.mono ?_
    rintro e w1 ⟨rfl, hb⟩
    have H1 := Lib.hid hb
    clear hb HA
    go_wp2_with fail
    go_ret
    exact ⟨rfl, H1.out⟩
  have d2 : decide (1500 < b) = false := decide_eq_false c2
  by_cases c3 : a < 1
  · have d3 : decide (a < 1) = true := decide_eq_true c3
    clear c1 c2 c3
    go_enter Try.func6, Try.ntmps6
    go_wp2_with fail
    refine HA.out.mono ?_
    rintro e w1 ⟨rfl, hb⟩
    have H1 := Lib.hid hb
    clear hb HA
    go_wp2_with fail
    go_ret
    exact ⟨rfl, H1.out⟩
  have d3 : decide (a < 1) = false := decide_eq_false c3
  by_cases c4 : 50 < a
  · have d4 : decide (50 < a) = true := decide_eq_true c4
    clear c1 c2 c3 c4
    go_enter Try.func6, Try.ntmps6
    go_wp2_with fail
    refine HA.out.mono ?_
    rintro e w1 ⟨rfl, hb⟩
    have H1 := Lib.hid hb
    clear hb HA
    go_wp2_with fail
    go_ret
    exact ⟨rfl, H1.out⟩
  have d4 : decide (50 < a) = false := decide_eq_false c4
  obtain ⟨m, rfl⟩ : ∃ m : Nat, a = (m : Int) := ⟨a.toNat, by omega⟩
  have hm : m ≤ 50 := by omega
  obtain ⟨n, hn⟩ : ∃ n, 2 * m = n := ⟨_, rfl⟩
  have HPL := Lib.hid (play_light (b := b) (by omega) hm)
  rw [hn] at HPL
  have HN := Lib.hid hn
  have hn100 : n ≤ 100 := by omega
  clear hn
  go_enter Try.func6, Try.ntmps6
  go_wp2_with fail
  refine HA.out.mono ?_
  rintro e w1 ⟨rfl, hb⟩
  have H1 : Hid (OpsIn w w1 (.slice none 0 0) (lightOps b 0 0 0)) := Lib.hid ⟨OwnT.nil _ _ _, hb⟩
  clear hb HA c1 c2 c3 c4
  go_wp2_with fail
  go_loopg [29, 5] m (fun z c x wi => ∃ i : Nat, c = .int .i64 (i : Int) ∧ i + z = m ∧ Hid (OpsIn w wi x (lightOps b i 0 0)))
  case atStart => exact ⟨0, rfl, by omega, H1⟩
  case round =>
    clear H1
    obtain ⟨i, rfl, hiz, HI⟩ := hrel
    cases gk with
    | zero =>
      obtain rfl : i = m := by omega
      have H1 := Lib.hid HI.out
      clear HI
      go_wp2_with fail
      go_loopg [38, 5] i (fun z c x wi => ∃ j : Nat, c = .int .i64 (j : Int) ∧ j + z = i ∧ Hid (OpsIn w wi x (lightOps b i j 0)))
      case atStart => exact ⟨0, rfl, by omega, H1⟩
      case round =>
        clear H1
        obtain ⟨j, rfl, hjz, HI⟩ := hrel
        cases gk with
        | zero =>
          obtain rfl : j = i := by omega
          have H1 := Lib.hid HI.out
          clear HI
          go_wp2_with fail
          rw [show (2 * (j : Int)) = (n : Int) by have := HN.out; omega]
          go_loopg [48, 5] n (fun z c x wi => ∃ k : Nat, c = .int .i64 (k : Int) ∧ k + z = n ∧ Hid (OpsIn w wi x (lightOps b j j k)))
          case atStart => exact ⟨0, rfl, by omega, H1⟩
          case round =>
            clear H1
            obtain ⟨k, rfl, hkz, HI⟩ := hrel
            cases gk with
            | zero =>
              obtain rfl : k = n := by omega
              obtain ⟨A, cap, rfl, hle, hT⟩ := HI.out.1.form
              have bo : Below wr.heap.size wr (wr.alloc (.cells (i64s [3, 3]).toArray 3)) := (Below.refl _ _).alloc (Nat.le_refl _) _
              have HPY := Lib.hid (play_any (ints_laid wr [3, 3] (by decide)) (hT.below bo) 2 cap)
              rw [HPL.out.1, HPL.out.2] at HPY
              have HB := Lib.hid (HI.out.2.trans (bo.mono HI.out.2.size))
              unfold Out at HPY
              rw [turns_length, HN.out] at HPY
              generalize playE [3, 3] (lightOps b j j k) = E0 at *
              generalize playL [3, 3] (lightOps b j j k) = L0 at *
              rw [lightOps_length] at HPY hle ⊢
              obtain ⟨q, hq⟩ : ∃ q, j + j + k = q := ⟨_, rfl⟩
              rw [hq] at HPY hle ⊢
              clear hT bo HI HPL hq
              generalize E0.length = el at *
              generalize L0.length = ll at *
              go_wp2_with fail
              refine HPY.out.mono ?_
              rintro e w5 ⟨A1, cA, B1, cB, D1, cD, rfl, -, hS, -, hb⟩
              have HS := Lib.hid (And.intro hS (HB.out.trans (hb.mono HB.out.size)))
              clear hS hb HPY HB
              have en : IntKind.i64.wrap (2 * (j : Int)) = (k : Int) := by rw [wrap_in (by omega) (by omega)]; have := HN.out; omega
              have eb : ((k : Int) != (k : Int)) = false := by simp
              go_wp2_with fail
              have H5 := Lib.hid (Below.refl w5.heap.size w5)
              clear en eb hle d1 d2 d3 d4
              go_loopg [74] k (fun z c wi => ∃ i : Nat, c = .int .i64 (i : Int) ∧ i + z = k ∧ Hid (Below w5.heap.size w5 wi))
              case atStart => exact ⟨0, rfl, by omega, H5⟩
              case round =>
                clear H5
                obtain ⟨i, rfl, hiz, HI⟩ := hrel
                cases gk with
                | zero =>
                  have HZ := Lib.hid (HS.out.2.trans (HI.out.mono HS.out.2.size))
                  clear HI HS HN
                  go_wp2_with fail
                  go_ret
                  exact ⟨rfl, HZ.out⟩
                | succ z =>
                  have hi : i < k := by omega
                  have i1 : (i : Int) < (k : Int) := by omega
                  obtain ⟨b1, off, n', d', rfl, hx, ⟨x0, x1⟩, hbl⟩ := (HS.out.1.below HI.out).next (i := i) (by rw [turns_length, HN.out]; exact hi)
                  rw [turns_at b j i (by rw [HN.out]; exact hi)] at hx
                  simp only [Option.some.injEq, Prod.mk.injEq] at hx
                  obtain ⟨rfl, rfl⟩ := hx
                  have er : (((i % 2 : Nat) : Int) != (i : Int) % 2) = false := by simp
                  have HM := Lib.hid (fun ob => HI.out.alloc HI.out.size ob)
                  clear HI HS HN
                  generalize ((i % 2 : Nat) : Int) = r at *
                  go_wp2_with fail
                  go_roundg z
                  case measure => omega
                  case rel => exact ⟨i + 1, by go_num, by omega, Lib.hid (HM.out _)⟩
            | succ z =>
              have i1 : (k : Int) < (n : Int) := by omega
              obtain ⟨v', W, hr, ho⟩ := HI.out.push (by rw [lightOps_length]; have := HN.out; omega) 2 0 0
              have HR := Lib.hid hr
              have HM : Hid (OpsIn w W v' (lightOps b j j (k + 1))) := Lib.hid (by
                rw [show lightOps b j j (k + 1) = lightOps b j j k ++ [(2, 0, 0)] by unfold lightOps; rw [rep_snoc]; simp]
                exact ho)
              clear hr ho HI
              go_wp2_with (at_builtin; refine wpList_append_g rfl (.tmp 50) (.tmp 52) 23 23 rfl rfl rfl (HR.out _) ?_)
              clear HR
              go_wp2_with fail
              go_roundg z
              case measure => omega
              case rel => exact ⟨k + 1, by go_num, by omega, HM⟩
        | succ z =>
          have i1 : (j : Int) < (i : Int) := by omega
          obtain ⟨v', W, hr, ho⟩ := HI.out.push (by rw [lightOps_length]; omega) 1 1 b
          have HR := Lib.hid hr
          have HM : Hid (OpsIn w W v' (lightOps b i (j + 1) 0)) := Lib.hid (by
            rw [show lightOps b i (j + 1) 0 = lightOps b i j 0 ++ [(1, 1, b)] by unfold lightOps; rw [rep_snoc]; simp]
            exact ho)
          clear hr ho HI
          go_wp2_with (at_builtin; refine wpList_append_g rfl (.tmp 40) (.tmp 43) 23 23 rfl rfl rfl (HR.out _) ?_)
          clear HR
          go_wp2_with fail
          go_roundg z
          case measure => omega
          case rel => exact ⟨j + 1, by go_num, by omega, HM⟩
    | succ z =>
      have i1 : (i : Int) < (m : Int) := by omega
      obtain ⟨v', W, hr, ho⟩ := HI.out.push (by rw [lightOps_length]; omega) 1 0 b
      have HR := Lib.hid hr
      have HM : Hid (OpsIn w W v' (lightOps b (i + 1) 0 0)) := Lib.hid (by
        rw [show lightOps b (i + 1) 0 0 = lightOps b i 0 0 ++ [(1, 0, b)] by unfold lightOps; rw [rep_snoc]; simp]
        exact ho)
      clear hr ho HI
      go_wp2_with (at_builtin; refine wpList_append_g rfl (.tmp 31) (.tmp 34) 23 23 rfl rfl rfl (HR.out _) ?_)
      clear HR
      go_wp2_with fail
      go_roundg z
      case measure => omega
      case rel => exact ⟨i + 1, by go_num, by omega, HM⟩
end Go.Proofs.Ytobkepipmmkboaa
