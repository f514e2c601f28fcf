/- DrrApart: how much a flow sends does not hang on others. -/
import Derived.Test.YtgphbplmkegdeaaDl2
import Derived.Test.YtgphbplmkegdeaaDlM
namespace Go.Proofs.Ytgphbplmkegdeaa
open Go.RowKit Go.Maps

theorem elem_lists : Try.prog.underlying 23 = some (.slice (Try.prog.elem 23)) := by kernel_rfl
theorem size_lists (w : World) : (sizeOf (Try.prog.elem 23)).run Try.prog w = .ok 1 w := by kernel_rfl
/-- 's[k:k+1]' of ints. -/
theorem one_int {w : World} {P : Option Addr} {xs : List Int} (h : IntsIn w P xs) {n cx k : Nat} (hn : xs.length = n) (hc : n ≤ cx) (hk : k < n) {K : Int} (hK : K = (k : Int) + 1) :
    ∃ b off, P = some ⟨b, off, none⟩ ∧ (∀ W : World, (Instr.slice 22 (.slice (some ⟨b, off, none⟩) n cx) (some (.int .i64 (k : Int))) (some (.int .i64 K)) none).run Try.prog W = .ok (.slice (some ⟨b, off + k, none⟩) 1 (cx - k)) W) ∧ ∀ W, Below w.heap.size w W → IntsIn W (some ⟨b, off + k, none⟩) [fn xs k] := by
  obtain ⟨b, off, e, hl, hcell⟩ := h.at_ (by omega)
  subst e
  refine ⟨b, off, rfl, fun W => ?_, fun W hW => ⟨fun _ => ⟨b, off + k, rfl, Nat.lt_of_lt_of_le hl hW.size, fun j x hx => ?_⟩, by simp⟩⟩
  · rw [run_slice_lh (P := Try.prog) W 22 (some ⟨b, off, none⟩) n cx elem_ints .i64 .i64 (k : Int) K (by omega) (by omega) (by omega), size_ints]
    have hadd : (⟨b, off, none⟩ : Addr).add k = ⟨b, off + k, none⟩ := by unfold Addr.add; split <;> simp_all
    have e1 : K.toNat = k + 1 := by omega
    simp [Result.andThen, sliced, e1, hadd, show ¬ cx = k by omega]
  · match j, hx with
    | 0, hx =>
      simp only [List.getElem?_cons_zero, Option.some.injEq] at hx
      subst hx
      rw [Nat.add_zero]
      exact (hW.cell (p := ⟨b, off + k, none⟩) hl).trans (hcell k _ (at_fn (by omega)))
    | _ + 1, hx => simp at hx
/-- 's[k:k+1]' of lists. -/
theorem one_list {w : World} {P : Option Addr} {fs : List (List Int)} (h : ListsIn w P fs) {n cx k : Nat} (hn : fs.length = n) (hc : n ≤ cx) (hk : k < n) {K : Int} (hK : K = (k : Int) + 1) :
    ∃ b off, P = some ⟨b, off, none⟩ ∧ (∀ W : World, (Instr.slice 23 (.slice (some ⟨b, off, none⟩) n cx) (some (.int .i64 (k : Int))) (some (.int .i64 K)) none).run Try.prog W = .ok (.slice (some ⟨b, off + k, none⟩) 1 (cx - k)) W) ∧ ∀ W, Below w.heap.size w W → ListsIn W (some ⟨b, off + k, none⟩) [fl fs k] := by
  obtain ⟨b, off, e, hl, hcell⟩ := h.at_ (by omega)
  subst e
  refine ⟨b, off, rfl, fun W => ?_, fun W hW => ⟨fun _ => ⟨b, off + k, rfl, Nat.lt_of_lt_of_le hl hW.size, fun j x hx => ?_⟩, by simp⟩⟩
  · rw [run_slice_lh (P := Try.prog) W 23 (some ⟨b, off, none⟩) n cx elem_lists .i64 .i64 (k : Int) K (by omega) (by omega) (by omega), size_lists]
    have hadd : (⟨b, off, none⟩ : Addr).add k = ⟨b, off + k, none⟩ := by unfold Addr.add; split <;> simp_all
    have e1 : K.toNat = k + 1 := by omega
    simp [Result.andThen, sliced, e1, hadd, show ¬ cx = k by omega]
  · match j, hx with
    | 0, hx =>
      simp only [List.getElem?_cons_zero, Option.some.injEq] at hx
      subst hx
      rw [Nat.add_zero]
      obtain ⟨B, c, h1, h2, h3⟩ := hcell k _ (at_fl (by omega))
      exact ⟨B, c, (hW.cell (p := ⟨b, off + k, none⟩) hl).trans h1, h2.below hW, h3⟩
    | _ + 1, hx => simp at hx

set_option maxRecDepth 100000 in
set_option maxHeartbeats 16000000 in
theorem drrApart_law {w : World} {P Q : Option Addr} {xs : List Int} {fs : List (List Int)} (hx : IntsIn w P xs) (hy : ListsIn w Q fs) {cx cy : Nat} (hcx : xs.length ≤ cx) (hcy : fs.length ≤ cy) (r who : Int) :
    Calls Try.prog 8 #[.slice P xs.length cx, .slice Q fs.length cy, .int .i64 r, .int .i64 who] w fun e w' => e = .returned (.bool true) ∧ Below w.heap.size w w' := by
  have HA := Lib.hid alive14_any
  have HE := Lib.hid (fun W (hW : Below w.heap.size w W) => rounds_any (hx.below hW) (hy.below hW) cx cy r)
  unfold Out at HE
  rcases rounds_way xs fs r with ⟨h12, he⟩ | ⟨_, hR, q, rfl, hq, he⟩
  · have hE : (roundsErr xs fs r != 0) = true := by rcases h12 with h | h <;> rw [h] <;> rfl
    rw [he] at HE
    generalize roundsErr xs fs r = E at *
    clear hx hy h12 he
    simp only [List.length_nil] at HE
    go_enter Try.func8, Try.ntmps8
    go_wp2_with fail
    refine (HA.out _).mono ?_
    rintro e w1 ⟨rfl, hb⟩
    have H1 := Lib.hid hb
    clear hb HA
    go_wp2_with fail
    refine (HE.out _ H1.out).mono ?_
    rintro e w2 ⟨A, cA, B, cB, D, cD, rfl, hS, -, -, hb, -⟩
    have H2 := Lib.hid (And.intro (H1.out.trans (hb.mono H1.out.size)) hS)
    clear hb HE H1 hS
    go_wp2_with fail
    go_ret
    exact ⟨rfl, H2.out.1⟩
  · rw [he] at HE
    obtain ⟨n, hn⟩ : ∃ n, xs.length = n := ⟨_, rfl⟩
    have hm : fs.length = n := by rw [hR.len, hn]
    simp only [outL_length, outC_length] at HE
    rw [hn, hm] at HE
    rw [hn] at hcx
    rw [hm] at hcy
    rw [hn, hm]
    by_cases c1 : who < 0
    · clear hx hy he hR hn hm
      generalize outS xs fs (List.replicate n 0) q = S at *
      generalize S.length = sl at *
      go_enter Try.func8, Try.ntmps8
      go_wp2_with fail
      refine (HA.out _).mono ?_
      rintro e w1 ⟨rfl, hb⟩
      have H1 := Lib.hid hb
      clear hb HA
      go_wp2_with fail
      refine (HE.out _ H1.out).mono ?_
      rintro e w2 ⟨A, cA, B, cB, D, cD, rfl, hS, -, -, hb, -⟩
      have H2 := Lib.hid (And.intro (H1.out.trans (hb.mono H1.out.size)) hS)
      clear hb HE H1 hS
      go_wp2_with fail
      go_ret
      exact ⟨rfl, H2.out.1⟩
    · by_cases c2 : (n : Int) ≤ who
      · clear hx hy he hR hn hm
        generalize outS xs fs (List.replicate n 0) q = S at *
        generalize S.length = sl at *
        go_enter Try.func8, Try.ntmps8
        go_wp2_with fail
        refine (HA.out _).mono ?_
        rintro e w1 ⟨rfl, hb⟩
        have H1 := Lib.hid hb
        clear hb HA
        go_wp2_with fail
        refine (HE.out _ H1.out).mono ?_
        rintro e w2 ⟨A, cA, B, cB, D, cD, rfl, hS, -, -, hb, -⟩
        have H2 := Lib.hid (And.intro (H1.out.trans (hb.mono H1.out.size)) hS)
        clear hb HE H1 hS
        go_wp2_with fail
        go_ret
        exact ⟨rfl, H2.out.1⟩
      · obtain ⟨k, rfl⟩ : ∃ k : Nat, who = (k : Int) := ⟨who.toNat, by omega⟩
        have hk : k < n := by omega
        obtain ⟨K, hKw, hK⟩ : ∃ K, IntKind.i64.wrap ((k : Int) + 1) = K ∧ K = (k : Int) + 1 := ⟨_, rfl, wrap_in (by omega) (by have := hR.few; omega)⟩
        obtain ⟨b0, o0, rfl, s0, hx1⟩ := one_int hx hn hcx hk hK
        obtain ⟨b1, o1, rfl, s1, hy1⟩ := one_list hy hm hcy hk hK
        have HO := Lib.hid (fun W (hW : Below w.heap.size w W) => rounds_ok (hx1 W hW) (hy1 W hW) (right_one hR (by rw [hn]; exact hk)) (cx - k) (cy - k) hq)
        unfold Out at HO
        simp only [outL_length, outC_length, List.length_cons, List.length_nil, Nat.zero_add] at HO
        have HS1 := Lib.hid (fun W A c (h : SentIn W A (outS xs fs (List.replicate n 0) q)) => sum_any h (outS_len hR q) (outS_bytes hR) c k)
        have HS2 := Lib.hid (fun W A c (h : SentIn W A (outS [fn xs k] [fl fs k] (List.replicate 1 0) q)) => sum_any h (outS_len (right_one hR (by rw [hn]; exact hk)) q) (outS_bytes (right_one hR (by rw [hn]; exact hk))) c 0)
        have hse := sum_one (xs := xs) (fs := fs) (r := q) (k := k) (by rw [hn]; exact hk)
        rw [hn] at hse
        rw [hse] at HS2
        generalize tt (flowOf k (outS xs fs (List.replicate n 0) q)) = T at *
        generalize outS xs fs (List.replicate n 0) q = S at *
        generalize outS [fn xs k] [fl fs k] (List.replicate 1 0) q = S2 at *
        generalize outL [fn xs k] [fl fs k] (List.replicate 1 0) q = L2 at *
        generalize outC [fn xs k] [fl fs k] (List.replicate 1 0) q = C2 at *
        generalize outL xs fs (List.replicate n 0) q = L1 at *
        generalize outC xs fs (List.replicate n 0) q = C1 at *
        clear hx hy he hR hn hm hx1 hy1 hse hK
        go_enter Try.func8, Try.ntmps8
        go_wp2_with fail
        refine (HA.out _).mono ?_
        rintro e w1 ⟨rfl, hb⟩
        have H1 := Lib.hid hb
        clear hb HA
        go_wp2_with fail
        refine (HE.out _ H1.out).mono ?_
        rintro e w2 ⟨A, cA, B, cB, D, cD, rfl, hS, -, -, hb, -⟩
        have H2 := Lib.hid (And.intro (H1.out.trans (hb.mono H1.out.size)) hS)
        clear hb HE H1 hS
        obtain ⟨sl, hsl⟩ : ∃ sl, S.length = sl := ⟨_, rfl⟩
        rw [hsl] at HS1 ⊢
        clear hsl
        obtain ⟨sl2, hsl2⟩ : ∃ sl2, S2.length = sl2 := ⟨_, rfl⟩
        rw [hsl2] at HS2 HO
        clear hsl2
        go_upto_region 6 with fail
        refine wp_region_held_drew (S := (fun _ => True)) (by kernel_rfl) trivial (fun hHeld => ?_)
        obtain ⟨w0, hw0⟩ : ∃ W0, W0 = w2.drew := ⟨_, rfl⟩
        have HB0 : Hid (Below w2.heap.size w2 w0) := Lib.hid (by rw [hw0]; exact (Below.refl _ _).drew)
        rw [← hw0]
        clear hw0
        refine wpAnyH_take (i := 0) (v := ?_) (by simp only [List.getElem?_toArray, List.getElem?_cons_zero] <;> rfl) (by kernel_rfl) (by kernel_rfl) (by kernel_rfl) (by exact fun _ _ _ h => h) (Or.inl ⟨by rfl, ?_⟩) hHeld ?_
        rotate_left
        · intro w hSw; (try dsimp only at hSw); go_simp; (try with_reducible rfl)
        (try simp only [Act.put, List.setIfInBounds_toArray, List.set_cons_zero, List.set_cons_succ])
        refine wpAnyH_take (i := 1) (v := ?_) (by simp only [List.getElem?_toArray, List.getElem?_cons_succ, List.getElem?_cons_zero] <;> rfl) (by kernel_rfl) (by kernel_rfl) (by kernel_rfl) (by exact fun _ _ _ h => h) (Or.inl ⟨by rfl, ?_⟩) hHeld ?_
        rotate_left
        · intro w hSw; (try dsimp only at hSw); go_simp; (try with_reducible rfl)
        (try simp only [Act.put, List.setIfInBounds_toArray, List.set_cons_zero, List.set_cons_succ])
        refine wpAnyH_take (i := 2) (v := ?_) (by simp only [List.getElem?_toArray, List.getElem?_cons_succ, List.getElem?_cons_zero] <;> rfl) (by kernel_rfl) (by kernel_rfl) (by kernel_rfl) (by exact fun _ _ _ h => h) (Or.inl ⟨by rfl, ?_⟩) hHeld ?_
        rotate_left
        · intro w hSw; (try dsimp only at hSw); go_simp; (try with_reducible rfl)
        (try simp only [Act.put, List.setIfInBounds_toArray, List.set_cons_zero, List.set_cons_succ])
        refine wpAnyH_take (i := 3) (v := ?_) (by simp only [List.getElem?_toArray, List.getElem?_cons_succ, List.getElem?_cons_zero] <;> rfl) (by kernel_rfl) (by kernel_rfl) (by kernel_rfl) (by exact fun _ _ _ h => h) (Or.inl ⟨by rfl, ?_⟩) hHeld ?_
        rotate_left
        · intro w hSw; (try dsimp only at hSw); go_simp; (try with_reducible rfl)
        (try simp only [Act.put, List.setIfInBounds_toArray, List.set_cons_zero, List.set_cons_succ])
        refine wpAnyH_take (i := 4) (v := ?_) (by simp only [List.getElem?_toArray, List.getElem?_cons_succ, List.getElem?_cons_zero] <;> rfl) (by kernel_rfl) (by kernel_rfl) (by kernel_rfl) (by exact fun _ _ _ h => h) (Or.inl ⟨by rfl, ?_⟩) hHeld ?_
        rotate_left
        · intro w hSw; (try dsimp only at hSw); go_simp; (try with_reducible rfl)
        (try simp only [Act.put, List.setIfInBounds_toArray, List.set_cons_zero, List.set_cons_succ])
        refine wpAnyH_take (i := 5) (v := ?_) (by simp only [List.getElem?_toArray, List.getElem?_cons_succ, List.getElem?_cons_zero] <;> rfl) (by kernel_rfl) (by kernel_rfl) (by kernel_rfl) (by exact fun _ _ _ h => h) (Or.inl ⟨by rfl, ?_⟩) hHeld ?_
        rotate_left
        · intro w hSw; (try dsimp only at hSw); go_simp; (try with_reducible rfl)
        (try simp only [Act.put, List.setIfInBounds_toArray, List.set_cons_zero, List.set_cons_succ])
        refine wpAnyH_take (i := 6) (v := ?_) (by simp only [List.getElem?_toArray, List.getElem?_cons_succ, List.getElem?_cons_zero] <;> rfl) (by kernel_rfl) (by kernel_rfl) (by kernel_rfl) (by exact fun _ _ _ h => h) (Or.inl ⟨by rfl, ?_⟩) hHeld ?_
        rotate_left
        · intro w hSw; (try dsimp only at hSw); go_simp; (try with_reducible rfl)
        (try simp only [Act.put, List.setIfInBounds_toArray, List.set_cons_zero, List.set_cons_succ])
        refine wpAnyH_take (i := 7) (v := ?_) (by simp only [List.getElem?_toArray, List.getElem?_cons_succ, List.getElem?_cons_zero] <;> rfl) (by kernel_rfl) (by kernel_rfl) (by kernel_rfl) (by exact fun _ _ _ h => h) (Or.inl ⟨by rfl, ?_⟩) hHeld ?_
        rotate_left
        · intro w hSw; (try dsimp only at hSw); go_simp; (try with_reducible rfl)
        (try simp only [Act.put, List.setIfInBounds_toArray, List.set_cons_zero, List.set_cons_succ])
        refine wpAnyH_take (i := 8) (v := ?_) (by simp only [List.getElem?_toArray, List.getElem?_cons_succ, List.getElem?_cons_zero] <;> rfl) (by kernel_rfl) (by kernel_rfl) (by kernel_rfl) (by exact fun _ _ _ h => h) (Or.inl ⟨by rfl, ?_⟩) hHeld ?_
        rotate_left
        · intro w hSw; (try dsimp only at hSw); go_simp; (try with_reducible rfl)
        (try simp only [Act.put, List.setIfInBounds_toArray, List.set_cons_zero, List.set_cons_succ])
        refine wpAnyH_take (i := 9) (v := ?_) (by simp only [List.getElem?_toArray, List.getElem?_cons_succ, List.getElem?_cons_zero] <;> rfl) (by kernel_rfl) (by kernel_rfl) (by kernel_rfl) (by exact fun _ _ _ h => h) (Or.inl ⟨by rfl, ?_⟩) hHeld ?_
        rotate_left
        · intro w hSw; (try dsimp only at hSw); go_simp; (try with_reducible rfl)
        (try simp only [Act.put, List.setIfInBounds_toArray, List.set_cons_zero, List.set_cons_succ])
        refine wpAnyH_take (i := 10) (v := ?_) (by simp only [List.getElem?_toArray, List.getElem?_cons_succ, List.getElem?_cons_zero] <;> rfl) (by kernel_rfl) (by kernel_rfl) (by kernel_rfl) (by exact fun _ _ _ h => h) (Or.inl ⟨by rfl, ?_⟩) hHeld ?_
        rotate_left
        · intro w hSw; (try dsimp only at hSw); go_simp; (try with_reducible rfl)
        (try simp only [Act.put, List.setIfInBounds_toArray, List.set_cons_zero, List.set_cons_succ])
        refine wpAnyH_ready (rs := [11]) (by kernel_rfl) (by simp) ?_
        refine AllReadyH.cons (by simp only [List.getElem?_toArray, List.getElem?_cons_succ, List.getElem?_cons_zero] <;> rfl) (fun K hK => ?_) AllReadyH.nil
        go_simp
        go_at_call 19
        refine (HO.out _ (H2.out.1.trans (HB0.out.mono H2.out.1.size))).mono ?_
        rintro e w3 ⟨A2, cA2, B2, cB2, D2, cD2, rfl, hS2, -, -, hb, -⟩
        have H3 := Lib.hid (And.intro ((H2.out.1.trans (HB0.out.mono H2.out.1.size)).trans (hb.mono (H2.out.1.trans (HB0.out.mono H2.out.1.size)).size)) (And.intro ((H2.out.2.below HB0.out).below hb) hS2))
        clear hb hS2 HO H2 HB0
        go_wp2_with fail
        refine hK.out _ _ ?_ (fun hHeld => ?_)
        · trivial
        clear hK K
        (try simp only [Act.put, List.setIfInBounds_toArray, List.set_cons_zero, List.set_cons_succ])
        refine wpAnyH_take (i := 12) (v := ?_) (by simp only [List.getElem?_toArray, List.getElem?_cons_succ, List.getElem?_cons_zero] <;> rfl) (by kernel_rfl) (by kernel_rfl) (by kernel_rfl) (by exact fun _ _ _ h => h) (Or.inl ⟨by rfl, ?_⟩) hHeld ?_
        rotate_left
        · intro w hSw; (try dsimp only at hSw); go_simp; (try with_reducible rfl)
        (try simp only [Act.put, List.setIfInBounds_toArray, List.set_cons_zero, List.set_cons_succ])
        refine wpAnyH_take (i := 13) (v := ?_) (by simp only [List.getElem?_toArray, List.getElem?_cons_succ, List.getElem?_cons_zero] <;> rfl) (by kernel_rfl) (by kernel_rfl) (by kernel_rfl) (by exact fun _ _ _ h => h) (Or.inl ⟨by rfl, ?_⟩) hHeld ?_
        rotate_left
        · intro w hSw; (try dsimp only at hSw); go_simp; (try with_reducible rfl)
        (try simp only [Act.put, List.setIfInBounds_toArray, List.set_cons_zero, List.set_cons_succ])
        refine wpAnyH_take (i := 14) (v := ?_) (by simp only [List.getElem?_toArray, List.getElem?_cons_succ, List.getElem?_cons_zero] <;> rfl) (by kernel_rfl) (by kernel_rfl) (by kernel_rfl) (by exact fun _ _ _ h => h) (Or.inl ⟨by rfl, ?_⟩) hHeld ?_
        rotate_left
        · intro w hSw; (try dsimp only at hSw); go_simp; (try with_reducible rfl)
        (try simp only [Act.put, List.setIfInBounds_toArray, List.set_cons_zero, List.set_cons_succ])
        refine wpAnyH_take (i := 15) (v := ?_) (by simp only [List.getElem?_toArray, List.getElem?_cons_succ, List.getElem?_cons_zero] <;> rfl) (by kernel_rfl) (by kernel_rfl) (by kernel_rfl) (by exact fun _ _ _ h => h) (Or.inl ⟨by rfl, ?_⟩) hHeld ?_
        rotate_left
        · intro w hSw; (try dsimp only at hSw); go_simp; (try with_reducible rfl)
        (try simp only [Act.put, List.setIfInBounds_toArray, List.set_cons_zero, List.set_cons_succ])
        refine wpAnyH_take (i := 16) (v := ?_) (by simp only [List.getElem?_toArray, List.getElem?_cons_succ, List.getElem?_cons_zero] <;> rfl) (by kernel_rfl) (by kernel_rfl) (by kernel_rfl) (by exact fun _ _ _ h => h) (Or.inl ⟨by rfl, ?_⟩) hHeld ?_
        rotate_left
        · intro w hSw; (try dsimp only at hSw); go_simp; (try with_reducible rfl)
        (try simp only [Act.put, List.setIfInBounds_toArray, List.set_cons_zero, List.set_cons_succ])
        refine wpAnyH_take (i := 17) (v := ?_) (by simp only [List.getElem?_toArray, List.getElem?_cons_succ, List.getElem?_cons_zero] <;> rfl) (by kernel_rfl) (by kernel_rfl) (by kernel_rfl) (by exact fun _ _ _ h => h) (Or.inl ⟨by rfl, ?_⟩) hHeld ?_
        rotate_left
        · intro w hSw; (try dsimp only at hSw); go_simp; (try with_reducible rfl)
        (try simp only [Act.put, List.setIfInBounds_toArray, List.set_cons_zero, List.set_cons_succ])
        refine wpAnyH_take (i := 18) (v := ?_) (by simp only [List.getElem?_toArray, List.getElem?_cons_succ, List.getElem?_cons_zero] <;> rfl) (by kernel_rfl) (by kernel_rfl) (by kernel_rfl) (by exact fun _ _ _ h => h) (Or.inl ⟨by rfl, ?_⟩) hHeld ?_
        rotate_left
        · intro w hSw; (try dsimp only at hSw); go_simp; (try with_reducible rfl)
        (try simp only [Act.put, List.setIfInBounds_toArray, List.set_cons_zero, List.set_cons_succ])
        refine wpAnyH_take (i := 19) (v := ?_) (by simp only [List.getElem?_toArray, List.getElem?_cons_succ, List.getElem?_cons_zero] <;> rfl) (by kernel_rfl) (by kernel_rfl) (by kernel_rfl) (by exact fun _ _ _ h => h) (Or.inl ⟨by rfl, ?_⟩) hHeld ?_
        rotate_left
        · intro w hSw; (try dsimp only at hSw); go_simp; (try with_reducible rfl)
        (try simp only [Act.put, List.setIfInBounds_toArray, List.set_cons_zero, List.set_cons_succ])
        refine wpAnyH_take (i := 20) (v := ?_) (by simp only [List.getElem?_toArray, List.getElem?_cons_succ, List.getElem?_cons_zero] <;> rfl) (by kernel_rfl) (by kernel_rfl) (by kernel_rfl) (by exact fun _ _ _ h => h) (Or.inl ⟨by rfl, ?_⟩) hHeld ?_
        rotate_left
        · intro w hSw; (try dsimp only at hSw); go_simp; (try with_reducible rfl)
        (try simp only [Act.put, List.setIfInBounds_toArray, List.set_cons_zero, List.set_cons_succ])
        refine wpAnyH_done (by kernel_rfl) ?_ _
        clear s0 s1 hKw
        go_wp2_with fail
        refine (HS1.out _ _ cA H3.out.2.1).mono ?_
        rintro e w4 ⟨rfl, hb⟩
        have H4 := Lib.hid (And.intro (H3.out.1.trans (hb.mono H3.out.1.size)) (H3.out.2.2.below hb))
        clear hb HS1 H3
        go_wp2_with fail
        refine (HS2.out _ _ cA2 H4.out.2).mono ?_
        rintro e w5 ⟨rfl, hb⟩
        have H5 := Lib.hid (H4.out.1.trans (hb.mono H4.out.1.size))
        clear hb HS2 H4
        go_wp2_with fail
        go_ret
        exact ⟨ret_bool (by simp), H5.out⟩
theorem drrApart_walk {w : World} {P Q : Option Addr} {xs : List Int} {fs : List (List Int)} {n m cx cy : Nat} (hx : IntsIn w P xs) (h1 : xs.length = n) (hy : ListsIn w Q fs) (h2 : fs.length = m) (hcx : xs.length ≤ cx) (hcy : fs.length ≤ cy) (r who : Int) :
    Calls Try.prog 8 #[.slice P n cx, .slice Q m cy, .int .i64 r, .int .i64 who] w fun e w' => e = .returned (.bool true) ∧ Below w.heap.size w w' := by
  subst h1 h2
  exact drrApart_law hx hy hcx hcy r who
end Go.Proofs.Ytgphbplmkegdeaa
