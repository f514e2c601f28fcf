/- bucket.Ready. -/
import Derived.Test.YtkcfhjbppnchoaaBk4
namespace Go.Proofs.Ytkcfhjbppnchoaa
open Go.RowKit Go.Maps

/-- A time, a word and an error are the answer; nothing old has turned. -/
def Readied (w : World) (r : Int × Bool × Int) (e : Ending) (w' : World) : Prop := e = .returned (.tuple #[.int .i64 r.1, .bool r.2.1, .int .i64 r.2.2]) ∧ Below w.heap.size w w'
theorem readied_mk {w W : World} {r : Int × Bool × Int} {a : Int} {u : Bool} {c : Int} (h : r = (a, u, c)) (hb : Below w.heap.size w W) : Readied w r (.returned (.tuple #[.int .i64 a, .bool u, .int .i64 c])) W := by
  rw [h]
  exact ⟨rfl, hb⟩
/-- A bucket's box. -/
def one (w : World) (b : Bk) : World := w.alloc (.cells #[.int .i64 b.num, .int .i64 b.den, .int .i64 b.burst, .int .i64 b.lev, .int .i64 b.tm] 23)
structure Box1 (w W : World) (b : Bk) : Prop where
  below : Below w.heap.size w W
  first : BkAt W w.heap.size b
theorem box1 (w : World) (b : Bk) : Box1 w (one w b) b := ⟨(Below.refl _ _).alloc (Nat.le_refl _) _, heap_alloc_new w _⟩
theorem Box1.later {w W W' : World} {b : Bk} (h : Box1 w W b) (hb : Below W.heap.size W W') : Box1 w W' b := ⟨h.below.trans (hb.mono h.below.size), h.first.below hb⟩

theorem ready_no {b : Bk} {n : Int} (h : b.right = false) : b.ready n = (0, false, 1) := by unfold Bk.ready; rw [h]; rfl
theorem ready_size {b : Bk} {n : Int} (h : b.right = true) (hn : btw n 0 1048576 = false) : b.ready n = (0, false, 2) := by unfold Bk.ready; rw [h, hn]; rfl
theorem ready_in {b : Bk} {n : Int} (h : b.right = true) (hn : btw n 0 1048576 = true) : b.ready n = if n * b.den ≤ b.lev then (b.tm, true, 0)
    else if b.burst < n then (0, false, 0)
    else if b.num = 0 then (0, false, 0)
    else if 1099511627776 < b.wait n then (0, false, 0)
    else (b.wait n, true, 0) := by unfold Bk.ready; rw [h, hn]; rfl

set_option maxRecDepth 100000 in
set_option maxHeartbeats 8000000 in
theorem ready_any (b : Bk) (n : Int) (w : World) :
    Calls Try.prog 11 #[.agg b.cells, .int .i64 n] w (Readied w (b.ready n)) := by
  have HX := Lib.hid (box1 w b)
  have HR := Lib.hid (fun W => right_any b W)
  have HS := Lib.hid (fun W => wrongSize_eq n W)
  obtain ⟨c0, c1, c2, c3, c4⟩ := HX.out.first.cells
  cases hr : b.right with
  | false =>
    have HZ : Hid (∀ W, Below w.heap.size w W → Readied w (b.ready n) (.returned (.tuple #[.int .i64 0, .bool false, .int .i64 1])) W) := Lib.hid (fun W hW => readied_mk (ready_no hr) hW)
    rw [hr] at HR
    clear hr
    generalize Readied w (b.ready n) = D at *
    unfold Bk.cells at HR ⊢
    go_enter Try.func11, Try.ntmps11
    go_upto_region 1 with fail
    change Code.wp _ _ _ _ (one w b)
    generalize one w b = m at *
    go_wp2_with fail
    refine (HR.out _).mono ?_
    rintro e w1 ⟨rfl, hb⟩
    have HX1 := Lib.hid (HX.out.later hb)
    clear HX hb c0 c1 c2 c3 c4
    go_wp2_with fail
    go_ret3
    exact HZ.out _ HX1.out.below
  | true =>
    rw [hr] at HR
    cases hn : btw n 0 1048576 with
    | false =>
      have HZ : Hid (∀ W, Below w.heap.size w W → Readied w (b.ready n) (.returned (.tuple #[.int .i64 0, .bool false, .int .i64 2])) W) := Lib.hid (fun W hW => readied_mk (ready_size hr hn) hW)
      rw [hn] at HS
      clear hr hn
      generalize Readied w (b.ready n) = D at *
      unfold Bk.cells at HR ⊢
      go_enter Try.func11, Try.ntmps11
      go_upto_region 1 with fail
      change Code.wp _ _ _ _ (one w b)
      generalize one w b = m at *
      go_wp2_with fail
      refine (HR.out _).mono ?_
      rintro e w1 ⟨rfl, hb⟩
      have HX1 := Lib.hid (HX.out.later hb)
      clear HX hb c0 c1 c2 c3 c4
      go_wp2_with (go_at_call 22; (with_reducible refine (HS.out _).mono ?_); rintro e w3 ⟨rfl, rfl⟩)
      go_ret3
      exact HZ.out _ HX1.out.below
    | true =>
      rw [hn] at HS
      have hok := Bk.right_iff.1 hr
      obtain ⟨n0, n1⟩ := btw_true.1 hn
      have hne := hok.needs n0 n1
      have hmo := hok.most
      have hl0 := hok.l0
      have hl1 := hok.l1
      obtain ⟨N, e1, hN⟩ : ∃ N, wrap64 (n * b.den) = N ∧ n * b.den = N := ⟨_, w64 (by omega) (by omega), rfl⟩
      obtain ⟨K, e2, hK⟩ : ∃ K, wrap64 (N - b.lev) = K ∧ N - b.lev = K := ⟨_, w64 (by omega) (by omega), rfl⟩
      have HQ := Lib.hid (ready_in hr hn)
      by_cases k1 : n * b.den ≤ b.lev
      · have HZ : Hid (∀ W, Below w.heap.size w W → Readied w (b.ready n) (.returned (.tuple #[.int .i64 b.tm, .bool true, .int .i64 0])) W) := Lib.hid (fun W hW => readied_mk (by rw [HQ.out, if_pos k1]) hW)
        have k : K ≤ 0 := by omega
        clear hr hn hok n0 n1 hne hmo hl0 hl1 hN hK HQ k1
        generalize Readied w (b.ready n) = D at *
        unfold Bk.cells at HR ⊢
        go_enter Try.func11, Try.ntmps11
        go_upto_region 1 with fail
        change Code.wp _ _ _ _ (one w b)
        generalize one w b = m at *
        go_wp2_with fail
        refine (HR.out _).mono ?_
        rintro e w1 ⟨rfl, hb⟩
        have HX1 := Lib.hid (HX.out.later hb)
        clear HX hb c0 c1 c2 c3 c4
        obtain ⟨c0, c1, c2, c3, c4⟩ := HX1.out.first.cells
        go_wp2_with (go_at_call 22; (with_reducible refine (HS.out _).mono ?_); rintro e w3 ⟨rfl, rfl⟩)
        go_ret3
        exact HZ.out _ HX1.out.below
      · have k : ¬ K ≤ 0 := by omega
        by_cases k2 : b.burst < n
        · have HZ : Hid (∀ W, Below w.heap.size w W → Readied w (b.ready n) (.returned (.tuple #[.int .i64 0, .bool false, .int .i64 0])) W) := Lib.hid (fun W hW => readied_mk (by rw [HQ.out, if_neg k1, if_pos k2]) hW)
          clear hr hn hok n0 n1 hne hmo hl0 hl1 hN hK HQ k1
          generalize Readied w (b.ready n) = D at *
          unfold Bk.cells at HR ⊢
          go_enter Try.func11, Try.ntmps11
          go_upto_region 1 with fail
          change Code.wp _ _ _ _ (one w b)
          generalize one w b = m at *
          go_wp2_with fail
          refine (HR.out _).mono ?_
          rintro e w1 ⟨rfl, hb⟩
          have HX1 := Lib.hid (HX.out.later hb)
          clear HX hb c0 c1 c2 c3 c4
          obtain ⟨c0, c1, c2, c3, c4⟩ := HX1.out.first.cells
          go_wp2_with (go_at_call 22; (with_reducible refine (HS.out _).mono ?_); rintro e w3 ⟨rfl, rfl⟩)
          go_ret3
          exact HZ.out _ HX1.out.below
        · by_cases k3 : b.num = 0
          · have HZ : Hid (∀ W, Below w.heap.size w W → Readied w (b.ready n) (.returned (.tuple #[.int .i64 0, .bool false, .int .i64 0])) W) := Lib.hid (fun W hW => readied_mk (by rw [HQ.out, if_neg k1, if_neg k2, if_pos k3]) hW)
            have k3' : (b.num == 0) = true := by simpa using k3
            clear hr hn hok n0 n1 hne hmo hl0 hl1 hN hK HQ k1 k3
            generalize Readied w (b.ready n) = D at *
            unfold Bk.cells at HR ⊢
            go_enter Try.func11, Try.ntmps11
            go_upto_region 1 with fail
            change Code.wp _ _ _ _ (one w b)
            generalize one w b = m at *
            go_wp2_with fail
            refine (HR.out _).mono ?_
            rintro e w1 ⟨rfl, hb⟩
            have HX1 := Lib.hid (HX.out.later hb)
            clear HX hb c0 c1 c2 c3 c4
            obtain ⟨c0, c1, c2, c3, c4⟩ := HX1.out.first.cells
            go_wp2_with (go_at_call 22; (with_reducible refine (HS.out _).mono ?_); rintro e w3 ⟨rfl, rfl⟩)
            go_ret3
            exact HZ.out _ HX1.out.below
          · obtain ⟨w1', w2', _⟩ := hok.wait n1 (by omega) k3
            have q0 := hok.n0
            have q1 := hok.n1
            have q2 := hok.t0
            have k3' : (b.num == 0) = false := by simpa using k3
            have e3 : IntKind.i64.wrap (K + b.num) = K + b.num := wrap_i64 (by omega) (by omega)
            have e4 : IntKind.i64.wrap (K + b.num - 1) = K + b.num - 1 := wrap_i64 (by omega) (by omega)
            have e5 : (K + b.num - 1).tdiv b.num = (K + b.num - 1) / b.num := Int.tdiv_eq_ediv_of_nonneg (by omega)
            have hw : b.wait n = b.tm + (K + b.num - 1) / b.num := by unfold Bk.wait; rw [hN, hK]
            obtain ⟨Q, hQ⟩ : ∃ Q, (K + b.num - 1) / b.num = Q := ⟨_, rfl⟩
            rw [hQ] at e5 hw
            rw [hw] at w1' w2'
            have e6 : IntKind.i64.wrap Q = Q := wrap_i64 (by omega) (by omega)
            have e7 : IntKind.i64.wrap (b.tm + Q) = b.tm + Q := wrap_i64 (by omega) (by omega)
            rw [hw] at HQ
            have HZ : Hid (∀ W, Below w.heap.size w W → Readied w (b.ready n) (.returned (.tuple (if 1099511627776 < b.tm + Q then #[.int .i64 0, .bool false, .int .i64 0] else #[.int .i64 (b.tm + Q), .bool true, .int .i64 0]))) W) := Lib.hid (fun W hW => by
              rw [HQ.out, if_neg k1, if_neg k2, if_neg k3]
              split
              · exact readied_mk rfl hW
              · exact readied_mk rfl hW)
            clear hr hn hok n0 n1 hne hmo hl0 hl1 hN hK HQ k1 w1' w2' q0 q1 q2 hw hQ
            generalize Readied w (b.ready n) = D at *
            unfold Bk.cells at HR ⊢
            go_enter Try.func11, Try.ntmps11
            go_upto_region 1 with fail
            change Code.wp _ _ _ _ (one w b)
            generalize one w b = m at *
            go_wp2_with fail
            refine (HR.out _).mono ?_
            rintro e w1 ⟨rfl, hb⟩
            have HX1 := Lib.hid (HX.out.later hb)
            clear HX hb c0 c1 c2 c3 c4
            obtain ⟨c0, c1, c2, c3, c4⟩ := HX1.out.first.cells
            go_upto_region 10 with (go_at_call 22; (with_reducible refine (HS.out _).mono ?_); rintro e w3 ⟨rfl, rfl⟩)
            go_quiet (fail)
            have HY := Lib.hid (below_drewN HX1.out.below nq)
            clear e3 e4 e5 e6 e7 HX1 c0 c1 c2 c3 c4
            generalize b.tm + Q = R at *
            generalize w1.drewN nq = w2 at *
            by_cases c : 1099511627776 < R
            · rw [if_pos c] at HZ
              go_wp2_with fail
              go_ret3
              exact HZ.out _ HY.out
            · rw [if_neg c] at HZ
              go_wp2_with fail
              go_ret3
              exact HZ.out _ HY.out
end Go.Proofs.Ytkcfhjbppnchoaa
