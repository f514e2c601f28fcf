/- curve.Serve. -/
import Derived.Test.YtdlmiiekcpbdcaaCv3
import Derived.Test.YtdlmiiekcpbdcaaCv4
namespace Go.Proofs.Ytdlmiiekcpbdcaa
open Go.RowKit Go.Maps

theorem IntsIn.nil (w : World) : IntsIn w none [] := ⟨fun h => absurd h (by decide), by decide⟩
/-- What Serve answers. -/
def Served (w : World) (r : List Int × Int) (e : Ending) (w' : World) : Prop :=
  ∃ R cR, e = .returned (.tuple #[.slice R r.1.length cR, .int .i64 r.2]) ∧ r.1.length ≤ cR ∧ IntsIn w' R r.1 ∧ Below w.heap.size w w'
/-- Between two rounds: the service in the first block, the result's row in block g. -/
structure SInv (w wr : World) (g n : Nat) (l s : Int) (done : List Int) : Prop where
  below : Below w.heap.size w wr
  ser : SerAt wr w.heap.size l s
  row : ∃ F : Nat → Value, wr.rowIs g 3 n F ∧ (∀ j x, done[j]? = some x → F j = .int .i64 x) ∧ ∀ j, done.length ≤ j → j < n → F j = .int .i64 0
  far : w.heap.size < g
namespace SInv
variable {w wr w' : World} {g n : Nat} {l s : Int} {done : List Int}
theorem seat (h : SInv w wr g n l s done) (hi : done.length < n) : wr.cell? ⟨g, done.length, none⟩ = some (.int .i64 0) ∧ wr.frozen? ⟨g, done.length, none⟩ = false := by
  obtain ⟨F, hr, hF, hG⟩ := h.row
  exact ⟨by rw [hr.cell hi, hG _ (Nat.le_refl _) hi], hr.frozen _⟩
theorem zero (h : SInv w wr g n l s done) (hi : done.length < n) : SInv w wr g n l s (done ++ [0]) := by
  obtain ⟨F, hr, hF, hG⟩ := h.row
  refine ⟨h.below, h.ser, ⟨F, hr, fun j x hx => ?_, fun j h1 h2 => hG j (by simp at h1; omega) h2⟩, h.far⟩
  rcases Nat.lt_trichotomy j done.length with c | c | c
  · rw [List.getElem?_append_left c] at hx
    exact hF j x hx
  · subst c
    simp at hx
    rw [hG _ (Nat.le_refl _) hi, hx]
  · rw [List.getElem?_eq_none (by simp; omega)] at hx
    cases hx
theorem put (h : SInv w wr g n l s done) (u : Int) : SInv w (wr.setCell ⟨g, done.length, none⟩ (.int .i64 u)) g n l s (done ++ [u]) := by
  obtain ⟨F, hr, hF, hG⟩ := h.row
  have hf := h.far
  refine ⟨h.below.setCell (by show w.heap.size ≤ g; omega) _, ?_, ⟨_, hr.set done.length (.int .i64 u), fun j x hx => ?_, fun j h1 h2 => ?_⟩, h.far⟩
  · exact (heap_setCell_other wr ⟨g, done.length, none⟩ w.heap.size _ (by show w.heap.size ≠ g; omega)).trans h.ser
  · rcases Nat.lt_trichotomy j done.length with c | c | c
    · rw [List.getElem?_append_left c] at hx
      rw [if_neg (by omega)]
      exact hF j x hx
    · subst c
      simp at hx
      rw [if_pos rfl, hx]
    · rw [List.getElem?_eq_none (by simp; omega)] at hx
      cases hx
  · simp at h1
    rw [if_neg (by omega)]
    exact hG j (by omega) h2
theorem last (h : SInv w wr g n l s done) (hn : done.length = n) (hl : n * 8 ≤ 281474976710656) : IntsIn wr (some ⟨g, 0, none⟩) done := by
  obtain ⟨F, hr, hF, _⟩ := h.row
  refine ⟨fun h0 => ⟨g, 0, rfl, hr.lt, fun j x hx => ?_⟩, by omega⟩
  have hj := (List.getElem?_eq_some_iff.1 hx).1
  rw [Nat.zero_add, hr.cell (i := j) (by omega), hF j x hx]
end SInv

theorem served_none {w W : World} {r : List Int × Int} {c : Int} (h : r = ([], c)) (hb : Below w.heap.size w W) : Served w r (.returned (.tuple #[.slice none 0 0, .int .i64 c])) W := by
  rw [h]
  exact ⟨none, 0, rfl, Nat.le_refl _, IntsIn.nil _, hb⟩

set_option maxRecDepth 100000 in
set_option maxHeartbeats 8000000 in
theorem serve_any {w : World} {xs : List Int} {A : Option Addr} (hP : IntsIn w A xs) (cap : Nat) (l s : Int) :
    Calls Try.prog 17 #[.agg #[.int .i64 l, .int .i64 s], .slice A xs.length cap] w (Served w (serve l s xs)) := by
  have HX := Lib.hid (laidS_at w l s)
  have H0 := Lib.hid (fun w => wrongService_any l s w)
  have HPB := Lib.hid (fun W (hW : Below w.heap.size w W) => hP.below hW)
  have H1 := Lib.hid (fun W (hW : Below w.heap.size w W) => wrongTrace_any (hP.below hW) cap)
  have hK : serve l s xs = if ((out20 l || out20 s) || wtr xs) = true then ([], 2) else (srv l s 0 0 xs, 0) := rfl
  obtain ⟨n, hn⟩ : ∃ n, xs.length = n := ⟨_, rfl⟩
  have HN := Lib.hid hn
  have hlen := hP.len
  rw [hn] at hlen H1 ⊢
  clear hP hn
  cases hc : out20 l || out20 s with
  | true =>
    rw [hc, Bool.true_or, if_pos rfl] at hK
    rw [hc] at H0
    have HZ : Hid (∀ W, Below w.heap.size w W → Served w (serve l s xs) (.returned (.tuple #[.slice none 0 0, .int .i64 2])) W) := Lib.hid (fun W hW => served_none hK hW)
    generalize Served w (serve l s xs) = D at *
    clear hc hK
    go_enter Try.func17, Try.ntmps17
    go_upto_region 1 with fail
    change Code.wp _ _ _ _ (laidS w l s)
    generalize laidS w l s = m at *
    obtain ⟨c0, c1⟩ := HX.out.1.cells
    go_wp2_with fail
    refine (H0.out _).mono ?_
    rintro e w1 ⟨rfl, hb⟩
    have HY := Lib.hid (HX.out.2.1.trans (hb.mono HX.out.2.1.size))
    clear HX hb c0 c1
    go_wp2_with fail
    exact HZ.out _ HY.out
  | false =>
    rw [hc, Bool.false_or] at hK
    rw [hc] at H0
    cases ht : wtr xs with
    | true =>
      rw [ht, if_pos rfl] at hK
      rw [ht] at H1
      have HZ : Hid (∀ W, Below w.heap.size w W → Served w (serve l s xs) (.returned (.tuple #[.slice none 0 0, .int .i64 2])) W) := Lib.hid (fun W hW => served_none hK hW)
      generalize Served w (serve l s xs) = D at *
      clear hc hK ht
      go_enter Try.func17, Try.ntmps17
      go_upto_region 1 with fail
      change Code.wp _ _ _ _ (laidS w l s)
      generalize laidS w l s = m at *
      obtain ⟨c0, c1⟩ := HX.out.1.cells
      go_wp2_with fail
      refine (H0.out _).mono ?_
      rintro e w1 ⟨rfl, hb⟩
      have HY := Lib.hid (HX.out.2.1.trans (hb.mono HX.out.2.1.size))
      clear HX hb c0 c1
      go_wp2_with fail
      refine (H1.out _ HY.out).mono ?_
      rintro e w2 ⟨rfl, rfl⟩
      go_wp2_with fail
      exact HZ.out _ HY.out
    | false =>
      rw [ht, if_neg (by decide)] at hK
      rw [ht] at H1
      obtain ⟨ht1, ht2⟩ := wtr_false.1 ht
      rw [Bool.or_eq_false_iff, out20_false, out20_false] at hc
      have HT := Lib.hid ht2
      have hn400 : n ≤ 400 := by have := HN.out; omega
      have HZ : Hid (∀ W done g, srv l s 0 0 xs = done → IntsIn W (some ⟨g, 0, none⟩) done → Below w.heap.size w W → Served w (serve l s xs) (.returned (.tuple #[.slice (some ⟨g, 0, none⟩) n n, .int .i64 0])) W) := Lib.hid (fun W done g he hi hb => by
        subst he
        refine ⟨some ⟨g, 0, none⟩, n, ?_, ?_, ?_, hb⟩
        · rw [hK]; dsimp only; rw [srv_length, HN.out]
        · rw [hK]; dsimp only; rw [srv_length, HN.out]; exact Nat.le_refl _
        · rw [hK]; exact hi)
      generalize Served w (serve l s xs) = D at *
      have hmk := run_make_row' (P := Try.prog) 35 3 (.int .i64 0) 8 Try.underlying35 (by kernel_rfl) rfl .i64 .i64 n (by omega) (by omega)
      clear ht hK ht1 ht2
      go_enter Try.func17, Try.ntmps17
      go_upto_region 1 with fail
      change Code.wp _ _ _ _ (laidS w l s)
      generalize laidS w l s = m at *
      obtain ⟨c0, c1⟩ := HX.out.1.cells
      go_wp2_with fail
      refine (H0.out _).mono ?_
      rintro e w1 ⟨rfl, hb⟩
      have HY := Lib.hid (And.intro (HX.out.2.1.trans (hb.mono HX.out.2.1.size)) (HX.out.1.below hb))
      clear HX hb c0 c1
      go_wp2_with fail
      refine (H1.out _ HY.out.1).mono ?_
      rintro e w2 ⟨rfl, rfl⟩
      clear H0 H1
      go_upto_region 4 with fail
      have HS : Hid (SInv w (w1.alloc (.cells (madeCells #[.int .i64 0] n) 3)) w1.heap.size n l s []) := Lib.hid (by
        have bo : Below w1.heap.size w1 (w1.alloc (.cells (madeCells #[.int .i64 0] n) 3)) := (Below.refl _ _).alloc (Nat.le_refl _) _
        exact ⟨HY.out.1.trans (bo.mono HY.out.1.size), HY.out.2.below bo, ⟨_, World.rowIs_made w1 _ _ _, fun j x hx => by simp at hx, fun j _ hj => rfl⟩, HY.out.2.lt⟩)
      obtain ⟨g, hg⟩ : ∃ g, w1.heap.size = g := ⟨_, rfl⟩
      rw [hg] at HS ⊢
      clear hg HY hmk
      generalize w1.alloc (.cells (madeCells #[.int .i64 0] n) 3) = w4 at *
      go_wp2_with fail
      go_loopg [7, 8, 22] n (fun z p v c wr => ∃ (i : Nat) (q k : Int) (done : List Int), p = .int .i64 q ∧ v = .int .i64 k ∧ c = .int .i64 (i : Int) ∧ i + z = n ∧ 0 ≤ q ∧ q ≤ 1048576 * (i : Int) ∧ 0 ≤ k ∧ k ≤ (i : Int) ∧ Hid (Srv l s xs i q k done ∧ SInv w wr g n l s done))
      case atStart => exact ⟨0, 0, 0, [], rfl, rfl, rfl, by omega, by omega, by omega, by omega, by omega, Lib.hid ⟨Srv.start l s xs, HS.out⟩⟩
      case round =>
        clear HS
        obtain ⟨i, q, kk, done, rfl, rfl, rfl, hik, hq0, hq1, hk0, hk1, HE⟩ := hrel
        cases gk with
        | zero =>
          obtain rfl : i = n := by omega
          have he := HE.out.1
          rw [← HN.out] at he
          have HR := Lib.hid (HZ.out wr _ g he.last (HE.out.2.last HE.out.1.len (by omega)) HE.out.2.below)
          clear he HZ HE HPB HT
          go_wp2_with fail
          exact HR.out
        | succ k =>
          have hi : i < n := by omega
          have i1 : (i : Int) < (n : Int) := by omega
          obtain ⟨b0, off, x, rfl, hx, hat, hbl⟩ := (HPB.out _ HE.out.2.below).next (i := i) (by have := HN.out; omega)
          have hx2 := HT.out x (List.mem_of_getElem? hx)
          have hnx := HE.out.1.next hx
          have hst := HE.out.2.seat (by have := HE.out.1.len; omega)
          have hz := HE.out.2.zero (by have := HE.out.1.len; omega)
          rw [HE.out.1.len] at hst
          obtain ⟨s0, s1⟩ := hst
          obtain ⟨c0, c1⟩ := HE.out.2.ser.cells
          have hsl := HE.out.1.len
          have e1 : wrap64 (q + x) = q + x := IntWalk.wrap64_in _ (by constructor <;> omega)
          have e2 : wrap64 (kk + 1) = kk + 1 := IntWalk.wrap64_in _ (by constructor <;> omega)
          by_cases hl : l < kk + 1
          · by_cases hm : q + x ≤ s
            · have hv : sv l s q kk x = q + x := by unfold sv; rw [if_pos hl]; omega
              have hq : sq l s q kk x = 0 := by unfold sq; rw [hv]; omega
              have hk : sk l s q kk x = 0 := by unfold sk; rw [hq, if_pos rfl]
              have hpt := HE.out.2.put (q + x)
              rw [hsl] at hpt
              rw [hv, hq, hk] at hnx
              have HQ := Lib.hid (And.intro hnx.1 hpt)
              have e3 : ¬ s < q + x := by omega
              clear hx hbl hz hpt hnx HE hv hq hk HT HPB
              go_wp2_with fail
              go_roundg k
              case measure => omega
              case rel => exact ⟨i + 1, 0, 0, _, rfl, rfl, by go_num, by omega, by omega, by omega, by omega, by omega, HQ⟩
            · have hv : sv l s q kk x = s := by unfold sv; rw [if_pos hl]; omega
              have hq : sq l s q kk x = q + x - s := by unfold sq; rw [hv]
              have hk : sk l s q kk x = kk + 1 := by unfold sk; rw [hq, if_neg (by omega)]
              have hpt := HE.out.2.put s
              rw [hsl] at hpt
              rw [hv, hq, hk] at hnx
              have HQ := Lib.hid (And.intro hnx.1 hpt)
              have e3 : s < q + x := by omega
              have e4 : wrap64 (q + x - s) = q + x - s := IntWalk.wrap64_in _ (by constructor <;> omega)
              have e5 : ((q + x - s) == 0) = false := by simp; omega
              clear hx hbl hz hpt hnx HE hv hq hk HT HPB
              go_wp2_with fail
              go_roundg k
              case measure => omega
              case rel => exact ⟨i + 1, q + x - s, kk + 1, _, rfl, rfl, by go_num, by omega, by omega, by omega, by omega, by omega, HQ⟩
          · have hv : sv l s q kk x = 0 := by unfold sv; rw [if_neg hl]
            have hq : sq l s q kk x = q + x := by unfold sq; rw [hv, Int.sub_zero]
            rw [hv, hq] at hnx
            by_cases hz0 : q + x = 0
            · have hk : sk l s q kk x = 0 := by unfold sk; rw [hq, if_pos hz0]
              rw [hk, hz0] at hnx
              have HQ := Lib.hid (And.intro hnx.1 hz)
              clear hx hbl hz hnx HE hv hq hk HT HPB s0 s1
              go_wp2_with fail
              go_roundg k
              case measure => omega
              case rel => exact ⟨i + 1, 0, 0, _, rfl, rfl, by go_num, by omega, by omega, by omega, by omega, by omega, HQ⟩
            · have hk : sk l s q kk x = kk + 1 := by unfold sk; rw [hq, if_neg hz0]
              rw [hk] at hnx
              have HQ := Lib.hid (And.intro hnx.1 hz)
              have e5 : ((q + x) == 0) = false := by simpa using hz0
              clear hx hbl hz hnx HE hv hq hk HT HPB s0 s1
              go_wp2_with fail
              go_roundg k
              case measure => omega
              case rel => exact ⟨i + 1, q + x, kk + 1, _, rfl, rfl, by go_num, by omega, by omega, by omega, by omega, by omega, HQ⟩
end Go.Proofs.Ytdlmiiekcpbdcaa
