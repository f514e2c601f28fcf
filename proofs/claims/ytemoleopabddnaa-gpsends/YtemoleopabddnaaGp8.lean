/- The reference's MEnd: a contract. -/
import Derived.Test.YtemoleopabddnaaGp7
namespace Go.Proofs.Ytemoleopabddnaa
open Go.RowKit Go.Maps

theorem lim_right {xs ys : List Int} (hR : Right xs ys) {N D : Int} (hN : 0 ≤ N ∧ N ≤ 1048576) (hD : 1 ≤ D ∧ D ≤ 1000) : Lim (fn xs) (fn ys) N D := ⟨hR.want0, hR.weight0, hN, hD⟩
theorem gone_start (b v : Nat → Int) (n : Nat) (h : ∀ j, 0 ≤ b j) : gone b v n 0 1 = 0 := by
  have e : gone b v n 0 1 = su (fun k => 0 * b k) n := su_congr fun j _ => by have := h j; rw [Int.mul_one, Int.mul_zero, Int.zero_mul]; omega
  rw [e, su_mul, Int.zero_mul]
theorem rst_start (b v : Nat → Int) (j : Nat) : rst b v 0 1 j = b j := by unfold rst; rw [Int.mul_one, Int.mul_zero]; omega
def laidPP (w : World) (n : Nat) : World := (w.alloc (.cells (madeCells #[.pointer none] n) 29)).alloc (.cells (madeCells #[.pointer none] n) 29)
theorem laidPP_at (w : World) (n : Nat) (b : Nat → Int) : LI w (laidPP w n) w.heap.size (w.heap.size + 1) n 0 b (fun _ => 0) := by
  have b1 : Below w.heap.size w (w.alloc (.cells (madeCells #[.pointer none] n) 29)) := (Below.refl _ _).alloc (Nat.le_refl _) _
  have hs : (w.alloc (.cells (madeCells #[.pointer none] n) 29)).heap.size = w.heap.size + 1 := by simp
  have r1 := World.rowIs_made w (.pointer none) n 29
  have r2 := World.rowIs_made (w.alloc (.cells (madeCells #[.pointer none] n) 29)) (.pointer none) n 29
  rw [hs] at r2
  have b2 : Below (w.heap.size + 1) (w.alloc (.cells (madeCells #[.pointer none] n) 29)) (laidPP w n) := (Below.refl _ _).alloc (by rw [hs]; exact Nat.le_refl _) _
  refine ⟨b1.trans (b2.mono (by omega)), Nat.le_refl _, by omega, by omega, (r1.of_block (b2.block _ (by omega))).congr fun j _ => by rw [if_neg (by omega)]; rfl, r2, fun j hj => by omega, fun j k _ hk => by omega, fun j hj => by omega⟩
theorem room_rat (w : World) : Below w.heap.size w (w.alloc (.cells #[.bool false, .slice none 0 0, .bool false, .slice none 0 0] 47)) ∧ RatRoom (w.alloc (.cells #[.bool false, .slice none 0 0, .bool false, .slice none 0 0] 47)) w.heap.size ∧ (w.alloc (.cells #[.bool false, .slice none 0 0, .bool false, .slice none 0 0] 47)).heap.size = w.heap.size + 1 := ⟨(Below.refl _ _).alloc (Nat.le_refl _) _, rat_new w, by simp⟩
theorem left_below {w W w' : World} {a b : Int} {e : Ending} {g : Nat} (hb : Below w.heap.size w W) (hg : w.heap.size ≤ g) (h : LeftV W g a b e w') : e = .returned (.pointer (some ⟨g, 0, none⟩)) ∧ Below w.heap.size w w' ∧ RatV w' g a b := ⟨h.1, below_of_grown hb h.2.1 hg, h.2.2⟩
theorem abs_le {x : Int} {B : Nat} (h0 : -(B : Int) ≤ x) (h1 : x ≤ (B : Int)) : x.natAbs ≤ B := by omega

/-- The share of each weight till who is done. -/
theorem quo_step {w : World} {g : Nat} {a d y : Int} (ha : RatV w g a d) (hA : -1048576000 ≤ a ∧ a ≤ 1048576000) (hd : 1 ≤ d ∧ d ≤ 1000) (hy : 1 ≤ y ∧ y ≤ 1000) {g2 gz : Nat} (hz : RatRoom w gz) (h2 : RatV w g2 y 1) :
    Calls Try.prog 28 #[.pointer (some ⟨gz, 0, none⟩), .pointer (some ⟨g, 0, none⟩), .pointer (some ⟨g2, 0, none⟩)] w (LeftV w gz a (d * y)) := by
  have h := prod_in (x := d) (y := y) (A := 1000) (B := 1000) ⟨by omega, hd.2⟩ ⟨by omega, hy.2⟩ (by decide)
  have := vquo gz g g2 hz ha h2 (by omega) (by rw [Int.mul_one]; omega) (by omega) (by omega) (by decide)
  rwa [Int.mul_one] at this
theorem cmp_step {w : World} {g g2 : Nat} {b v : Nat → Int} {N D : Int} (hL : Lim b v N D) {k j : Nat} (h1 : RatV w g (rst b v N D k) (D * v k)) (h2 : RatV w g2 (rst b v N D j) (D * v j)) :
    Calls Try.prog 16 #[.pointer (some ⟨g, 0, none⟩), .pointer (some ⟨g2, 0, none⟩)] w fun e w' => e = .returned (.int .i64 (cmpI (b k * v j) (b j * v k))) ∧ Below w.heap.size w w' := by
  have l1 := hL.rst k
  have l2 := hL.rst j
  have v1 := hL.v0 k
  have v2 := hL.v0 j
  have d := hL.D0
  have p1 := prod_in (x := D) (y := v k) (A := 1000) (B := 1000) ⟨by omega, d.2⟩ v1 (by decide)
  have p2 := prod_in (x := D) (y := v j) (A := 1000) (B := 1000) ⟨by omega, d.2⟩ v2 (by decide)
  have q1 := mul_small (a := rst b v N D k) (b := D * v j) (A := 1048576000) (B := 1000000) (by omega) (by omega)
  have q2 := mul_small (a := rst b v N D j) (b := D * v k) (A := 1048576000) (B := 1000000) (by omega) (by omega)
  have q3 := mul_small (a := D * v k) (b := D * v j) (A := 1000000) (B := 1000000) (by omega) (by omega)
  have := vcmp g g2 h1 h2 (by omega) (by omega) (by omega)
  rwa [near_cmp d.1] at this
theorem mul_step {w : World} {g g2 gz : Nat} {b v : Nat → Int} {N D : Int} (hL : Lim b v N D) {j : Nat} {y : Int} (hy : 0 ≤ y ∧ y ≤ 16000) (hz : RatRoom w gz) (h1 : RatV w g (rst b v N D j) (D * v j)) (h2 : RatV w g2 y 1) :
    Calls Try.prog 30 #[.pointer (some ⟨gz, 0, none⟩), .pointer (some ⟨g, 0, none⟩), .pointer (some ⟨g2, 0, none⟩)] w (LeftV w gz (rst b v N D j * y) (D * v j * 1)) := by
  have l2 := hL.rst j
  have v2 := hL.v0 j
  have d := hL.D0
  have p2 := prod_in (x := D) (y := v j) (A := 1000) (B := 1000) ⟨by omega, d.2⟩ v2 (by decide)
  have q1 := mul_small (a := rst b v N D j) (b := y) (A := 1048576000) (B := 16000) (by omega) (by omega)
  exact vmul gz g g2 hz h1 h2 (by omega) (by rw [Int.mul_one]; omega)
/-- The time moves. -/
theorem add_step {w : World} {g g2 gz : Nat} {b v : Nat → Int} {N D : Int} {n : Nat} (hL : Lim b v N D) (hn : n ≤ 16) (hv : ∀ j, j < n → 1 ≤ v j) {j : Nat} (hj : j < n) (hm : Near b v N D n j) (hz : RatRoom w gz) (h1 : RatV w g (gone b v n N D) D) (h2 : RatV w g2 (rst b v N D j * osum b v N D n) (D * v j * 1)) :
    Calls Try.prog 29 #[.pointer (some ⟨gz, 0, none⟩), .pointer (some ⟨g, 0, none⟩), .pointer (some ⟨g2, 0, none⟩)] w (LeftV w gz (gone b v n (b j) (v j)) (v j)) := by
  have l1 := hL.gone hn
  have l2 := hL.rst j
  have ls := hL.osum hn
  have v2 := hL.v0 j
  have d := hL.D0
  have p2 := prod_in (x := D) (y := v j) (A := 1000) (B := 1000) ⟨by omega, d.2⟩ v2 (by decide)
  have q0 := mul_small (a := rst b v N D j) (b := osum b v N D n) (A := 1048576000) (B := 16000) (by omega) (by omega)
  have q1 := mul_small (a := gone b v n N D) (b := D * v j * 1) (A := 16777216000) (B := 1000000) (by omega) (by omega)
  have q2 := mul_small (a := rst b v N D j * osum b v N D n) (b := D) (A := 16777216000000) (B := 1000) (by omega) (by omega)
  have q3 := mul_small (a := D) (b := D * v j * 1) (A := 1000) (B := 1000000) (by omega) (by omega)
  refine (vadd gz g g2 hz h1 h2 (by omega) (by omega) (by omega)).mono ?_
  rintro e w' ⟨he, hg, hr⟩
  refine ⟨he, hg, hr.eq (by have := hv j hj; omega) ?_⟩
  have hgo := hm.gone d.1 hv hj
  show _ = gT b v n j * (D * (D * v j * 1))
  rw [Int.mul_one, Int.add_mul]
  have e1 : gT b v n j * (D * (D * v j)) = gT b v n j * D * (D * v j) := by ac_rfl
  rw [e1, hgo, Int.add_mul]
  congr 1 <;> ac_rfl
theorem sub_step {w : World} {g g2 : Nat} {b v : Nat → Int} {N D : Int} (hL : Lim b v N D) {k j : Nat} (hj : 1 ≤ v j) (h1 : RatV w g (rst b v N D k) D) (h2 : RatV w g2 (rst b v N D j * v k) (D * v j * 1)) :
    Calls Try.prog 31 #[.pointer (some ⟨g, 0, none⟩), .pointer (some ⟨g, 0, none⟩), .pointer (some ⟨g2, 0, none⟩)] w (LeftV w g (rst b v (b j) (v j) k) (v j)) := by
  have l1 := hL.rst k
  have l2 := hL.rst j
  have v1 := hL.v0 k
  have v2 := hL.v0 j
  have d := hL.D0
  have p2 := prod_in (x := D) (y := v j) (A := 1000) (B := 1000) ⟨by omega, d.2⟩ v2 (by decide)
  have q0 := mul_small (a := rst b v N D j) (b := v k) (A := 1048576000) (B := 1000) (by omega) (by omega)
  have q1 := mul_small (a := rst b v N D k) (b := D * v j * 1) (A := 1048576000) (B := 1000000) (by omega) (by omega)
  have q2 := mul_small (a := rst b v N D j * v k) (b := D) (A := 1048576000000) (B := 1000) (by omega) (by omega)
  have q3 := mul_small (a := D) (b := D * v j * 1) (A := 1000) (B := 1000000) (by omega) (by omega)
  refine (vsub g g g2 h1.room h1 h2 (by omega) (by omega) (by omega)).mono ?_
  rintro e w' ⟨he, hg, hr⟩
  exact ⟨he, hg, hr.eq (by omega) (rst_next k j)⟩
theorem new_step (y : Int) (w : World) (h0 : 0 ≤ y) (h1 : y ≤ 1048576) : Calls Try.prog 15 #[.int .i64 y, .int .i64 1] w (MadeV w y 1) := vnew y 1 w (by omega) (by omega) (by decide) (by decide)

set_option maxRecDepth 100000 in
set_option maxHeartbeats 32000000 in
theorem mend_any {w : World} {A B : Option Addr} {xs ys : List Int} (hx : IntsIn w A xs) (hy : IntsIn w B ys) (hR : Right xs ys) (cx cy : Nat) :
    Calls Try.prog 14 #[.slice A xs.length cx, .slice B ys.length cy] w (Ended w xs.length (gT (fn xs) (fn ys) xs.length) (fn ys)) := by
  obtain ⟨n, hn⟩ : ∃ n, xs.length = n := ⟨_, rfl⟩
  have hm : ys.length = n := by rw [hR.len, hn]
  have h16 : n ≤ 16 := by rw [← hn]; exact hR.few
  have HPX := Lib.hid (fun W (hW : Below w.heap.size w W) => hx.below hW)
  have HPY := Lib.hid (fun W (hW : Below w.heap.size w W) => hy.below hW)
  have HOL : Hid (∀ i, i < n → ∃ b o y, B = some ⟨b, o, none⟩ ∧ ys[i]? = some y ∧ b < w.heap.size ∧ w.cell? ⟨b, o + i, none⟩ = some (.int .i64 y)) := Lib.hid (fun i hi => by
    obtain ⟨b, o, y, e, h1, h2, h3⟩ := hy.next (i := i) (by omega)
    exact ⟨b, o, y, e, h1, h3, h2⟩)
  have HN := Lib.hid (And.intro hn hm)
  have HRT := Lib.hid hR
  have HV : Hid (∀ j, j < n → 1 ≤ fn ys j) := Lib.hid (fun j hj => (hR.weight (by omega)).1)
  have HLI := Lib.hid (laidPP_at w n (fn xs))
  rw [hn, hm]
  have HZ : Hid (∀ wr gl ge M lp ep X Y nb A Dn, MI w wr gl ge M n (gT (fn xs) (fn ys) n) (fn ys) lp ep X Y nb A Dn → (∀ j, j < n → ep j ≠ none) → Ended w n (gT (fn xs) (fn ys) n) (fn ys) (.returned (.slice (some ⟨ge, 0, none⟩) n n)) wr) := Lib.hid (fun wr gl ge M lp ep X Y nb A Dn h ha => h.ended ha)
  generalize Ended w n (gT (fn xs) (fn ys) n) (fn ys) = DD at *
  have hmk := run_make_row' (P := Try.prog) 27 29 (.pointer none) 8 Try.underlying27 (by kernel_rfl) rfl .i64 .i64 n (by omega) (by omega)
  clear hx hy hR hn hm
  go_enter Try.func14, Try.ntmps14
  go_upto_region 3 with fail
  change Code.wp _ _ _ _ (laidPP w n)
  generalize laidPP w n = w2 at *
  try simp only [World.size_alloc] 
  obtain ⟨gl, hgl⟩ : ∃ g, w.heap.size = g := ⟨_, rfl⟩
  have HGL := Lib.hid hgl
  rw [hgl] at HLI ⊢
  obtain ⟨ge, hge⟩ : ∃ g, gl + 1 = g := ⟨_, rfl⟩
  try rw [hge] at HLI ⊢
  clear hge hgl hmk
  go_wp2_with fail
  go_loopg [24] n (fun k c wr => ∃ (i : Nat) (lp : Nat → Nat), c = .int .i64 (i : Int) ∧ i + k = n ∧ Hid (LI w wr gl ge n i (fn xs) lp))
  case atStart => exact ⟨0, fun _ => 0, rfl, by omega, HLI⟩
  case round =>
    clear HLI
    obtain ⟨i, lp, rfl, hik, HI⟩ := hrel
    cases gk with
    | succ k =>
      have hi : i < n := by omega
      have i1 : (i : Int) < (n : Int) := by omega
      obtain ⟨b0, o0, x, rfl, hxx, hcx, _⟩ := (HPX.out _ HI.out.below).next (i := i) (by rw [HN.out.1]; exact hi)
      have hfx := fn_at hxx
      have hbx := HRT.out.want0 i
      rw [hfx] at hbx
      have HFX := Lib.hid hfx
      have HC := Lib.hid (new_step x wr (by omega) (by omega))
      have HIK := Lib.hid hik
      clear hxx hfx hbx hik HPX HPY HOL HN HRT HV HZ
      go_wp2_with fail
      refine HC.out.mono ?_
      rintro e w3 ⟨g, hg, rfl, hb, hr⟩
      have HJ := Lib.hid (HI.out.next hb hg (by rw [HFX.out]; exact hr))
      obtain ⟨d0, d1⟩ := (HI.out.later hb).seat hi
      clear HI hg hb hr HC
      go_wp2_with fail
      go_roundg k
      case measure => omega
      case rel => exact ⟨i + 1, _, by go_num, by have := HIK.out; omega, HJ⟩
    | zero =>
      obtain rfl : n = i := by omega
      go_wp2_with fail
      have HM0 := Lib.hid (HI.out.start (gT (fn xs) (fn ys) n) (fn ys) (room_rat wr).1 (ratv_zero wr))
      generalize wr.alloc (.cells #[.bool false, .slice none 0 0, .bool false, .slice none 0 0] 47) = w4 at *
      obtain ⟨M, hM⟩ : ∃ M, wr.heap.size = M := ⟨_, rfl⟩
      rw [hM] at HM0 ⊢
      clear hM HI hik
      go_loopg [9, 10, 11, 38, 101] (n + 1) (fun z p9 p10 p11 p38 p101 wr => ∃ (nb : Nat) (ep : Nat → Option Nat) (N D : Int), p9 = .pointer (some ⟨nb, 0, none⟩) ∧ Hid (MI w wr gl ge M n (gT (fn xs) (fn ys) n) (fn ys) lp ep (rst (fn xs) (fn ys) N D) (fun _ => D) nb (gone (fn xs) (fn ys) n N D) D ∧ Lim (fn xs) (fn ys) N D ∧ (∀ j, j < n → (ep j = none → fn ys j * N ≤ fn xs j * D) ∧ (ep j ≠ none → fn xs j * D ≤ fn ys j * N)) ∧ ocnt (fn xs) (fn ys) N D n < (z : Int)))
      case atStart => exact ⟨M, fun _ => none, 0, 1, rfl, Lib.hid ⟨by
        have h := HM0.out.levels (X' := rst (fn xs) (fn ys) 0 1) (Y' := fun _ => 1) (fun j _ _ => ⟨(rst_start _ _ j).symm, rfl⟩)
        rw [gone_start (fn xs) (fn ys) n (fun j => (HRT.out.want0 j).1)]
        exact h, lim_right HRT.out (by decide) (by decide), fun j hj => ⟨fun _ => by rw [Int.mul_zero, Int.mul_one]; exact (HRT.out.want0 j).1, fun h => absurd rfl h⟩, by have := ocnt_le (fn xs) (fn ys) 0 1 n; omega⟩⟩
      case round =>
        clear HM0
        obtain ⟨nb, ep, N, D, rfl, HO⟩ := hrel
        cases gk with
        | zero =>
          exfalso
          have h1 := HO.out.2.2.2
          have h2 := ocnt_nonneg (fn xs) (fn ys) N D n
          omega
        | succ z =>
          have HLM := Lib.hid HO.out.2.1
          have HCT := Lib.hid HO.out.2.2.2
          go_wp2_with fail
          go_loopg [10, 11, 38] n (fun y s q c wr => ∃ (i : Nat) (S : Int) (qq : Option Nat) (ep : Nat → Option Nat), s = .int .i64 S ∧ q = ptr qq ∧ c = .int .i64 (i : Int) ∧ i + y = n ∧ Hid (MI w wr gl ge M n (gT (fn xs) (fn ys) n) (fn ys) lp ep (rst (fn xs) (fn ys) N D) (fun _ => D) nb (gone (fn xs) (fn ys) n N D) D ∧ (∀ j, j < n → (ep j = none → fn ys j * N ≤ fn xs j * D) ∧ (ep j ≠ none → fn xs j * D ≤ fn ys j * N) ∧ (j < i → (ep j = none ↔ opn (fn xs) (fn ys) N D j))) ∧ S = osum (fn xs) (fn ys) N D i ∧ Nx wr M (fn xs) (fn ys) N D i qq))
          case atStart => exact ⟨0, 0, none, ep, rfl, rfl, rfl, by omega, Lib.hid ⟨HO.out.1, fun j hj => ⟨(HO.out.2.2.1 j hj).1, (HO.out.2.2.1 j hj).2, fun h => by omega⟩, rfl, Nx.start _ _ _ _ _ _⟩⟩
          case round =>
            clear HO
            obtain ⟨i, S, qq, ep, rfl, rfl, rfl, hik, HI⟩ := hrel
            cases gk with
            | succ y' =>
              have hi : i < n := by omega
              have i1 : (i : Int) < (n : Int) := by omega
              have HIK := Lib.hid hik
              have HM := Lib.hid HI.out.1
              have a0 := HM.out.lcell hi
              obtain ⟨e0, e1⟩ := HM.out.ecell hi
              have hfl := HI.out.2.1 i hi
              rcases hep : ep i with _ | g
              · rw [hep] at e0 hfl
                replace e0 : wr.cell? ⟨ge, i, none⟩ = some (.pointer none) := e0
                have hle := hfl.1 rfl
                have hlr := HM.out.left i hi hep
                have HEP := Lib.hid hep
                have HF := Lib.hid HI.out.2.1
                have HQ := Lib.hid (And.intro HI.out.2.2.1 HI.out.2.2.2)
                have hsg := vsign (lp i) hlr
                have HLR := Lib.hid hlr
                by_cases hz : rst (fn xs) (fn ys) N D i = 0
                · rw [hz, show cmpI 0 0 = 0 by decide] at hsg
                  have HSG := Lib.hid hsg
                  have HNO : Hid (¬ opn (fn xs) (fn ys) N D i) := Lib.hid (by rw [← rst_pos, hz]; omega)
                  have HEQ : Hid (fn xs i * D = fn ys i * N) := Lib.hid (by unfold rst at hz; omega)
                  clear hep hfl hle hlr hsg hz HI hik
                  go_wp2_with fail
                  refine HSG.out.mono ?_
                  rintro e w5 ⟨rfl, hw⟩
                  subst hw
                  clear HSG
                  have HX1 := Lib.hid (room_rat wr)
                  have HST := Lib.hid (vset wr.heap.size nb HX1.out.2.1 ((HM.out.later HX1.out.1).now) (by have := HLM.out.gone h16; omega) (by have := HLM.out.D0; omega))
                  have HG := Lib.hid HM.out.top
                  go_wp2_with fail
                  generalize wr.alloc (.cells #[.bool false, .slice none 0 0, .bool false, .slice none 0 0] 47) = w5 at *
                  obtain ⟨g5, hg5⟩ : ∃ g, wr.heap.size = g := ⟨_, rfl⟩
                  rw [hg5] at HST HG ⊢
                  refine HST.out.mono ?_
                  rintro e w6 hs
                  have h6 := left_below HX1.out.1 (by rw [hg5]; exact Nat.le_refl _) hs
                  obtain rfl := h6.1
                  have HM6 := Lib.hid (HM.out.later h6.2.1)
                  have HQ6 := Lib.hid (HQ.out.2.later h6.2.1)
                  have HM7 := Lib.hid (HM6.out.finish (k := i) HG.out (h6.2.2.eq (HV.out i hi) (gone_done HLM.out.D0.1 (HLM.out.v0 i).1 HEQ.out)))
                  have HQ7 : Hid (Nx (w6.setCell ⟨ge, i, none⟩ (.pointer (some ⟨g5, 0, none⟩))) M (fn xs) (fn ys) N D i qq) := Lib.hid (by
                    rcases HQ6.out with h | ⟨g, m, e, hm, hn, hg, hr⟩
                    · exact .inl h
                    · exact .inr ⟨g, m, e, hm, hn, hg, hr.set HM6.out.erow i _⟩)
                  obtain ⟨f0, f1⟩ := HM6.out.ecell hi
                  rw [HEP.out] at f0
                  replace f0 : w6.cell? ⟨ge, i, none⟩ = some (.pointer none) := f0
                  have HT := Lib.hid HQ.out.1
                  clear hg5 h6 hs HX1 HST HG a0 e0 e1 HM HQ HQ6 HM6 HLR HEQ
                  go_upto_region 16 with fail
                  clear f0 f1
                  generalize w6.setCell ⟨ge, i, none⟩ (.pointer (some ⟨g5, 0, none⟩)) = w7 at *
                  have f0 := (HM7.out.ecell hi).1
                  rw [if_pos rfl] at f0
                  replace f0 : w7.cell? ⟨ge, i, none⟩ = some (.pointer (some ⟨g5, 0, none⟩)) := f0
                  go_wp2_with fail
                  go_roundg y'
                  case measure => omega
                  case rel => exact ⟨i + 1, S, qq, _, rfl, rfl, by go_num, by have := HIK.out; omega, Lib.hid ⟨HM7.out, fun j hj => by
                    have hf := HF.out j hj
                    by_cases c : j = i
                    · subst c
                      have hn := HNO.out
                      unfold opn at hn
                      rw [if_pos rfl]
                      exact ⟨fun h => (by cases h), fun _ => by omega, fun _ => ⟨fun h => (by cases h), fun h => absurd h HNO.out⟩⟩
                    · rw [if_neg c]
                      exact ⟨hf.1, hf.2.1, fun h => hf.2.2 (by omega)⟩, by rw [osum_succ, if_neg HNO.out, Int.add_zero]; exact HT.out, HQ7.out.skip HNO.out⟩⟩
                · have hpo : 0 < rst (fn xs) (fn ys) N D i := by unfold rst at hz ⊢; omega
                  have hop := rst_pos.1 hpo
                  rw [show cmpI (rst (fn xs) (fn ys) N D i) 0 = 1 by unfold cmpI; rw [if_neg (by omega), if_pos hpo]] at hsg
                  have HSG := Lib.hid hsg
                  have HOP := Lib.hid hop
                  obtain ⟨b1, o1, y, rfl, hyy, hcy, _⟩ := (HPY.out _ HM.out.below).next (i := i) (by rw [HN.out.2]; exact hi)
                  have hfy := fn_at hyy
                  have hby := HRT.out.weight (k := i) (by rw [HN.out.1]; exact hi)
                  have hsb := HLM.out.osum (i := i) (by omega)
                  rw [← HQ.out.1] at hsb
                  rw [hfy] at hby
                  have q1 : wrap64 (S + y) = S + y := IntWalk.wrap64_in _ (by constructor <;> omega)
                  have HFY := Lib.hid hfy
                  have HQ1 := Lib.hid q1
                  have HT : Hid (S + y = osum (fn xs) (fn ys) N D (i + 1)) := Lib.hid (by rw [osum_succ, if_pos hop, hfy, HQ.out.1])
                  have HX1 := Lib.hid (room_rat wr)
                  have HNR := Lib.hid (new_step y (wr.alloc (.cells #[.bool false, .slice none 0 0, .bool false, .slice none 0 0] 47)) (by omega) (by omega))
                  have HFN : Hid (∀ j, j < n → (ep j = none → fn ys j * N ≤ fn xs j * D) ∧ (ep j ≠ none → fn xs j * D ≤ fn ys j * N) ∧ (j < i + 1 → (ep j = none ↔ opn (fn xs) (fn ys) N D j))) := Lib.hid (fun j hj => ⟨(HF.out j hj).1, (HF.out j hj).2.1, fun h => by
                    by_cases c : j = i
                    · subst c; exact ⟨fun _ => HOP.out, fun _ => HEP.out⟩
                    · exact (HF.out j hj).2.2 (by omega)⟩)
                  clear hep hfl hle hlr hsg hz HI hik hpo hop hyy hfy hsb HF
                  go_wp2_with fail
                  refine HSG.out.mono ?_
                  rintro e w5 ⟨rfl, hw⟩
                  subst hw
                  clear HSG
                  go_wp2_with fail
                  clear q1 a0 e0 e1 hcy
                  generalize wr.alloc (.cells #[.bool false, .slice none 0 0, .bool false, .slice none 0 0] 47) = w5 at *
                  obtain ⟨g5, hg5⟩ : ∃ g, wr.heap.size = g := ⟨_, rfl⟩
                  refine HNR.out.mono ?_
                  rintro e w6 ⟨g6, hg6, rfl, hb6, hr6⟩
                  have hB6 := HX1.out.1.trans (hb6.mono HX1.out.1.size)
                  have HQU := Lib.hid (quo_step (HLR.out.below hB6) (HLM.out.rst i) HLM.out.D0 hby (HX1.out.2.1.below hb6) hr6)
                  have HB6 := Lib.hid hB6
                  clear hb6 hr6 hg6 hB6 HNR
                  have HG5 : Hid (wr.heap.size ≤ g5) := Lib.hid (by rw [hg5]; exact Nat.le_refl _)
                  rw [hg5] at HQU ⊢
                  go_wp2_with fail
                  refine HQU.out.mono ?_
                  rintro e w7 hq7
                  have h7 := left_below HB6.out HG5.out hq7
                  obtain rfl := h7.1
                  have HM7 := Lib.hid (HM.out.later h7.2.1)
                  have HR7 : Hid (M ≤ g5 ∧ RatV w7 g5 (rst (fn xs) (fn ys) N D i) (D * fn ys i)) := Lib.hid ⟨Nat.le_trans HM.out.top HG5.out, by rw [HFY.out]; exact h7.2.2⟩
                  have HQ7 := Lib.hid (HQ.out.2.later h7.2.1)
                  clear hg5 hq7 h7 HQU HX1 HB6 HG5 HLR HM HQ
                  rcases HQ7.out with ⟨e, hnone⟩ | ⟨gq, m, e, hm, hnr, hgq, hrq⟩
                  · subst e
                    have HNX := Lib.hid (HQ7.out.first HOP.out HR7.out.1 HR7.out.2)
                    clear hnone HQ7 HR7
                    simp only [ptr, Option.map_none]
                    go_wp2_with fail
                    go_roundg y'
                    case measure => omega
                    case rel => exact ⟨i + 1, S + y, some g5, ep, by first | rfl | rw [HQ1.out], rfl, by go_num, by have := HIK.out; omega, Lib.hid ⟨HM7.out, HFN.out, HT.out, HNX.out⟩⟩
                  · subst e
                    have HCM := Lib.hid (cmp_step HLM.out HR7.out.2 hrq)
                    have HWC : Hid (cmpI (fn xs i * fn ys m) (fn xs m * fn ys i) < 0 ↔ fn xs i * fn ys m < fn xs m * fn ys i) := Lib.hid (by unfold cmpI; (repeat' split) <;> omega)
                    have HNE := Lib.hid (And.intro hnr (And.intro hm (And.intro hgq hrq)))
                    generalize cmpI (fn xs i * fn ys m) (fn xs m * fn ys i) = R at *
                    clear hm hnr hgq hrq HQ7
                    simp only [ptr, Option.map_some]
                    by_cases hR : R < 0
                    · have hd : decide (R < 0) = true := decide_eq_true hR
                      have HLT := Lib.hid (HWC.out.1 hR)
                      clear HWC
                      go_wp2_with fail
                      refine HCM.out.mono ?_
                      rintro e w8 ⟨rfl, hb8⟩
                      have HM8 := Lib.hid (And.intro (HM7.out.later hb8) (Nx.nearer (HNE.out.1) (fun j hj => HV.out j (by omega)) HNE.out.2.1 HOP.out HLT.out HR7.out.1 (HR7.out.2.below hb8)))
                      clear hb8 HCM HNE HR7 HM7 HLT
                      go_wp2_with fail
                      go_roundg y'
                      case measure => omega
                      case rel => exact ⟨i + 1, S + y, some g5, ep, by first | rfl | rw [HQ1.out], rfl, by go_num, by have := HIK.out; omega, Lib.hid ⟨HM8.out.1, HFN.out, HT.out, HM8.out.2⟩⟩
                    · have hd : decide (R < 0) = false := decide_eq_false hR
                      have HLT : Hid (fn xs m * fn ys i ≤ fn xs i * fn ys m) := Lib.hid (by have := HWC.out; omega)
                      clear HWC
                      go_wp2_with fail
                      refine HCM.out.mono ?_
                      rintro e w8 ⟨rfl, hb8⟩
                      have HM8 := Lib.hid (And.intro (HM7.out.later hb8) (Nx.farther (HNE.out.1) HNE.out.2.1 HLT.out HNE.out.2.2.1 (HNE.out.2.2.2.below hb8)))
                      clear hb8 HCM HNE HR7 HM7 HLT
                      go_wp2_with fail
                      go_roundg y'
                      case measure => omega
                      case rel => exact ⟨i + 1, S + y, some gq, ep, by first | rfl | rw [HQ1.out], rfl, by go_num, by have := HIK.out; omega, Lib.hid ⟨HM8.out.1, HFN.out, HT.out, HM8.out.2⟩⟩
              · rw [hep] at e0 hfl
                replace e0 : wr.cell? ⟨ge, i, none⟩ = some (.pointer (some ⟨g, 0, none⟩)) := e0
                have HNO : Hid (¬ opn (fn xs) (fn ys) N D i) := Lib.hid (by have := hfl.2.1 (by simp); unfold opn; omega)
                have HF := Lib.hid HI.out.2.1
                have HEP := Lib.hid hep
                have HQ := Lib.hid (And.intro HI.out.2.2.1 HI.out.2.2.2)
                clear hep hfl HI hik
                go_wp2_with fail
                go_roundg y'
                case measure => omega
                case rel => exact ⟨i + 1, S, qq, ep, rfl, rfl, by go_num, by have := HIK.out; omega, Lib.hid ⟨HM.out, fun j hj => ⟨(HF.out j hj).1, (HF.out j hj).2.1, fun h => by
                    by_cases c : j = i
                    · subst c; exact ⟨fun h => (by rw [HEP.out] at h; cases h), fun h => absurd h HNO.out⟩
                    · exact (HF.out j hj).2.2 (by omega)⟩, by rw [osum_succ, if_neg HNO.out, Int.add_zero]; exact HQ.out.1, HQ.out.2.skip HNO.out⟩⟩
            | zero =>
              obtain rfl : i = n := by omega
              rcases HI.out.2.2.2 with ⟨e, hnone⟩ | ⟨gq, c0, e, hm, hnr, hgq, hrq⟩
              · subst e
                have HD := Lib.hid (HZ.out _ _ _ _ _ _ _ _ _ _ _ HI.out.1 (fun j hj h => hnone j hj (((HI.out.2.1 j hj).2.2 hj).1 h)))
                clear hnone HI HZ HPX HPY HOL HN HRT HV HLM HCT
                simp only [ptr, Option.map_none]
                go_wp2_with fail
                exact HD.out
              · subst e
                have HM1 := Lib.hid HI.out.1
                have HF := Lib.hid HI.out.2.1
                have hsb := HLM.out.osum (i := i) h16
                have hSS := HI.out.2.2.1
                rw [← hSS] at hsb
                have HSS := Lib.hid hSS
                have HNE := Lib.hid (And.intro hnr (And.intro hm (And.intro hgq hrq)))
                have HX1 := Lib.hid (room_rat wr)
                have HX2 := Lib.hid (room_rat (wr.alloc (.cells #[.bool false, .slice none 0 0, .bool false, .slice none 0 0] 47)))
                clear hSS hm hnr hgq hrq HI
                simp only [ptr, Option.map_some]
                go_wp2_with fail
                obtain ⟨g5, hg5⟩ : ∃ g, wr.heap.size = g := ⟨_, rfl⟩
                have HG5 : Hid (wr.heap.size ≤ g5) := Lib.hid (by rw [hg5]; exact Nat.le_refl _)
                have hs2 := HX1.out.2.2
                rw [hs2] at HX2
                rw [hg5] at HX2 ⊢
                have HR5 : Hid (RatRoom (wr.alloc (.cells #[.bool false, .slice none 0 0, .bool false, .slice none 0 0] 47)) g5) := Lib.hid (by rw [← hg5]; exact HX1.out.2.1)
                clear hs2
                generalize wr.alloc (.cells #[.bool false, .slice none 0 0, .bool false, .slice none 0 0] 47) = w5 at *
                have hb5 : Below (g5 + 1) w5 (w5.alloc (.cells #[.bool false, .slice none 0 0, .bool false, .slice none 0 0] 47)) := HX2.out.1
                have HB5 : Hid (Below wr.heap.size wr (w5.alloc (.cells #[.bool false, .slice none 0 0, .bool false, .slice none 0 0] 47)) ∧ RatRoom (w5.alloc (.cells #[.bool false, .slice none 0 0, .bool false, .slice none 0 0] 47)) g5) := Lib.hid ⟨HX1.out.1.trans (hb5.mono (by omega)), HR5.out.below (hb5.mono (by have := HX1.out.2.2; omega))⟩
                clear hb5 HX1 HR5
                generalize w5.alloc (.cells #[.bool false, .slice none 0 0, .bool false, .slice none 0 0] 47) = w6 at *
                refine (new_step S w6 (by omega) (by omega)).mono ?_
                rintro e w7 ⟨g7, hg7, rfl, hb7, hr7⟩
                have hB7 := HB5.out.1.trans (hb7.mono HB5.out.1.size)
                have HMU := Lib.hid (mul_step (gz := g5 + 1) HLM.out (y := S) (by omega) (HX2.out.2.1.below hb7) (HNE.out.2.2.2.below hB7) hr7)
                have HB7 := Lib.hid (And.intro hB7 (HB5.out.2.below hb7))
                clear hg7 hb7 hr7 hB7 HB5 HX2
                go_wp2_with fail
                refine HMU.out.mono ?_
                rintro e w8 hm8
                have h8 := left_below HB7.out.1 (show wr.heap.size ≤ g5 + 1 by have := HG5.out; omega) hm8
                have hR8 : RatRoom w8 g5 := by
                  obtain ⟨H, hr⟩ := HB7.out.2
                  exact ⟨H, hr.of_block (hm8.2.1.block g5 hr.lt (by simp))⟩
                obtain rfl := h8.1
                have HAD := Lib.hid (add_step (gz := g5) HLM.out h16 HV.out HNE.out.2.1 HNE.out.1 hR8 (HM1.out.later h8.2.1).now (by have := h8.2.2; rw [HSS.out] at this; exact this))
                have HB8 := Lib.hid h8.2.1
                clear hm8 h8 hR8 HMU HB7
                go_wp2_with fail
                refine HAD.out.mono ?_
                rintro e w9 hm9
                have h9 := left_below HB8.out HG5.out hm9
                obtain rfl := h9.1
                have HM9 := Lib.hid ((HM1.out.later h9.2.1).clock (Nat.le_trans HM1.out.top HG5.out) h9.2.2)
                have HN9 := Lib.hid (HNE.out.2.2.2.below h9.2.1)
                clear hm9 h9 HAD HB8 HM1 hg5
                have HC0 : Hid (1 ≤ fn ys c0 ∧ M ≤ gq) := Lib.hid ⟨HV.out c0 HNE.out.2.1, HNE.out.2.2.1⟩
                have HNXT := Lib.hid (And.intro HNE.out.1 HNE.out.2.1)
                clear HNE HSS HG5
                generalize g5 = nb at *
                go_wp2_with fail
                obtain ⟨n, hn⟩ : ∃ k, i = k := ⟨_, rfl⟩
                subst hn
                go_loopg [101] i (fun y c wr => ∃ k : Nat, c = .int .i64 (k : Int) ∧ k + y = i ∧ Hid (MI w wr gl ge M i (gT (fn xs) (fn ys) i) (fn ys) lp ep (fun j => if j < k then rst (fn xs) (fn ys) (fn xs c0) (fn ys c0) j else rst (fn xs) (fn ys) N D j) (fun j => if j < k then fn ys c0 else D) nb (gone (fn xs) (fn ys) i (fn xs c0) (fn ys c0)) (fn ys c0) ∧ RatV wr gq (rst (fn xs) (fn ys) N D c0) (D * fn ys c0)))
                case atStart => exact ⟨0, rfl, by omega, Lib.hid ⟨HM9.out.levels (fun j _ _ => ⟨by rw [if_neg (by omega)], by rw [if_neg (by omega)]⟩), HN9.out⟩⟩
                case round =>
                  clear HM9 HN9
                  obtain ⟨k, rfl, hkk, HI⟩ := hrel
                  cases gk with
                  | zero =>
                    obtain rfl : k = i := by omega
                    have HE := Lib.hid (HI.out.1.levels (X' := rst (fn xs) (fn ys) (fn xs c0) (fn ys c0)) (Y' := fun _ => fn ys c0) (fun j hj _ => ⟨if_pos hj, if_pos hj⟩))
                    clear HI
                    go_wp2_with fail
                    go_roundg z
                    case measure => omega
                    case rel => exact ⟨_, ep, fn xs c0, fn ys c0, rfl, Lib.hid ⟨HE.out, lim_right HRT.out (HRT.out.want0 c0) ⟨HC0.out.1, (HRT.out.weight0 c0).2⟩, fun j hj => by
                      have h1 := HNXT.out.1.next HLM.out.D0.1 HV.out HNXT.out.2 hj
                      have h2 := (HF.out j hj).2.2 hj
                      exact ⟨fun h => h1.1 (h2.1 h), fun h => h1.2 (fun c => h (h2.2 c))⟩, by
                      have h1 := HNXT.out.1.count HLM.out.D0.1 HV.out HNXT.out.2
                      have h2 := HCT.out
                      omega⟩⟩
                  | succ y' =>
                    have hi : k < i := by omega
                    have i1 : (k : Int) < (i : Int) := by omega
                    have HIK := Lib.hid hkk
                    have HM := Lib.hid HI.out.1
                    have HNX := Lib.hid HI.out.2
                    obtain ⟨e0, e1⟩ := HM.out.ecell hi
                    clear hkk HI
                    rcases hep : ep k with _ | g
                    · rw [hep] at e0
                      replace e0 : wr.cell? ⟨ge, k, none⟩ = some (.pointer none) := e0
                      have HEP := Lib.hid hep
                      obtain ⟨b1, o1, y, rfl, hyy, hlw, hcw⟩ := HOL.out k hi
                      have hcv := (HM.out.below.cell (p := ⟨b1, o1 + k, none⟩) hlw).trans hcw
                      have hlv : b1 < wr.heap.size := Nat.lt_of_lt_of_le hlw HM.out.below.size
                      have HOLD := Lib.hid (And.intro hlw hcw)
                      have HY := Lib.hid (fn_at hyy)
                      have hyb := HRT.out.weight0 k
                      rw [HY.out] at hyb
                      clear hep hyy hlw hcw
                      go_upto_region 29 with fail
                      clear e0 e1
                      have HS : Hid (∀ W, Below wr.heap.size wr W → (fun W : World => W.cell? ⟨gl, k, none⟩ = some (.pointer (some ⟨lp k, 0, none⟩)) ∧ W.cell? ⟨b1, o1 + k, none⟩ = some (.int .i64 y)) W) := Lib.hid (fun W hW => ⟨(hW.cell (p := ⟨gl, k, none⟩) HM.out.lrow.lt).trans (HM.out.lcell hi), (hW.cell (p := ⟨b1, o1 + k, none⟩) hlv).trans hcv⟩)
                      refine wp_region_held_drew (S := (fun W : World => W.cell? ⟨gl, k, none⟩ = some (.pointer (some ⟨lp k, 0, none⟩)) ∧ W.cell? ⟨b1, o1 + k, none⟩ = some (.int .i64 y))) (by kernel_rfl) (HS.out _ (Below.refl _ _).drew) (fun hHeld => ?_)
                      obtain ⟨w0, hw0⟩ : ∃ W0, W0 = wr.drew := ⟨_, rfl⟩
                      have HB0 : Hid (Below wr.heap.size wr w0) := Lib.hid (by rw [hw0]; exact (Below.refl _ _).drew)
                      rw [← hw0] at hHeld ⊢
                      clear hw0
                      refine wpAnyH_take (i := 0) (v := ?_) (by simp only [List.getElem?_toArray, List.getElem?_cons_zero] <;> rfl) (by kernel_rfl) (by kernel_rfl) (by kernel_rfl) (by exact fun _ _ _ h => h) (Or.inl ⟨by rfl, ?_⟩) hHeld ?_
                      rotate_left
                      · intro w hSw; (try dsimp only at hSw); go_simp; (try with_reducible rfl)
                      (try simp only [Act.put, List.setIfInBounds_toArray, List.set_cons_zero, List.set_cons_succ])
                      refine wpAnyH_take (i := 1) (v := ?_) (by simp only [List.getElem?_toArray, List.getElem?_cons_succ, List.getElem?_cons_zero] <;> rfl) (by kernel_rfl) (by kernel_rfl) (by kernel_rfl) (by exact fun _ _ _ h => h) (Or.inl ⟨by rfl, ?_⟩) hHeld ?_
                      rotate_left
                      · intro w hSw; (try dsimp only at hSw); go_simp; (try with_reducible rfl)
                      (try simp only [Act.put, List.setIfInBounds_toArray, List.set_cons_zero, List.set_cons_succ])
                      refine wpAnyH_take (i := 2) (v := ?_) (by simp only [List.getElem?_toArray, List.getElem?_cons_succ, List.getElem?_cons_zero] <;> rfl) (by kernel_rfl) (by kernel_rfl) (by kernel_rfl) (by exact fun _ _ _ h => h) (Or.inl ⟨by rfl, ?_⟩) hHeld ?_
                      rotate_left
                      · intro w hSw; (try dsimp only at hSw); go_simp; (try with_reducible rfl)
                      (try simp only [Act.put, List.setIfInBounds_toArray, List.set_cons_zero, List.set_cons_succ])
                      refine wpAnyH_take (i := 3) (v := ?_) (by simp only [List.getElem?_toArray, List.getElem?_cons_succ, List.getElem?_cons_zero] <;> rfl) (by kernel_rfl) (by kernel_rfl) (by kernel_rfl) (by exact fun _ _ _ h => h) (Or.inl ⟨by rfl, ?_⟩) hHeld ?_
                      rotate_left
                      · intro w hSw; (try dsimp only at hSw); go_simp; (try with_reducible rfl)
                      (try simp only [Act.put, List.setIfInBounds_toArray, List.set_cons_zero, List.set_cons_succ])
                      refine wpAnyH_take (i := 4) (v := ?_) (by simp only [List.getElem?_toArray, List.getElem?_cons_succ, List.getElem?_cons_zero] <;> rfl) (by kernel_rfl) (by kernel_rfl) (by kernel_rfl) (by exact fun _ _ _ h => h) (Or.inl ⟨by rfl, ?_⟩) hHeld ?_
                      rotate_left
                      · intro w hSw; (try dsimp only at hSw); go_simp; (try with_reducible rfl)
                      (try simp only [Act.put, List.setIfInBounds_toArray, List.set_cons_zero, List.set_cons_succ])
                      refine wpAnyH_take (i := 5) (v := ?_) (by simp only [List.getElem?_toArray, List.getElem?_cons_succ, List.getElem?_cons_zero] <;> rfl) (by kernel_rfl) (by kernel_rfl) (by kernel_rfl) (by exact fun _ _ _ h => h) (Or.inl ⟨by rfl, ?_⟩) hHeld ?_
                      rotate_left
                      · intro w hSw; (try dsimp only at hSw); go_simp; (try with_reducible rfl)
                      (try simp only [Act.put, List.setIfInBounds_toArray, List.set_cons_zero, List.set_cons_succ])
                      refine wpAnyH_take (i := 6) (v := ?_) (by simp only [List.getElem?_toArray, List.getElem?_cons_succ, List.getElem?_cons_zero] <;> rfl) (by kernel_rfl) (by kernel_rfl) (by kernel_rfl) (by exact fun _ _ _ h => h) (Or.inl ⟨by rfl, ?_⟩) hHeld ?_
                      rotate_left
                      · intro w hSw; (try dsimp only at hSw); go_simp; (try with_reducible rfl)
                      (try simp only [Act.put, List.setIfInBounds_toArray, List.set_cons_zero, List.set_cons_succ])
                      refine wpAnyH_take (i := 7) (v := ?_) (by simp only [List.getElem?_toArray, List.getElem?_cons_succ, List.getElem?_cons_zero] <;> rfl) (by kernel_rfl) (by kernel_rfl) (by kernel_rfl) (by exact fun _ _ _ h => h) (Or.inl ⟨by rfl, ?_⟩) hHeld ?_
                      rotate_left
                      · intro w hSw; (try dsimp only at hSw); go_simp; (try with_reducible rfl)
                      (try simp only [Act.put, List.setIfInBounds_toArray, List.set_cons_zero, List.set_cons_succ])
                      refine wpAnyH_take (i := 9) (v := ?_) (by simp only [List.getElem?_toArray, List.getElem?_cons_succ, List.getElem?_cons_zero] <;> rfl) (by kernel_rfl) (by kernel_rfl) (by kernel_rfl) (by exact fun _ _ _ h => h) (Or.inl ⟨by rfl, ?_⟩) hHeld ?_
                      rotate_left
                      · intro w hSw; (try dsimp only at hSw); go_simp; (try with_reducible rfl)
                      (try simp only [Act.put, List.setIfInBounds_toArray, List.set_cons_zero, List.set_cons_succ])
                      refine wpAnyH_take (i := 10) (v := ?_) (by simp only [List.getElem?_toArray, List.getElem?_cons_succ, List.getElem?_cons_zero] <;> rfl) (by kernel_rfl) (by kernel_rfl) (by kernel_rfl) (by exact fun _ _ _ h => h) (Or.inl ⟨by rfl, ?_⟩) hHeld ?_
                      rotate_left
                      · intro w hSw; (try dsimp only at hSw); go_simp; (try with_reducible rfl)
                      (try simp only [Act.put, List.setIfInBounds_toArray, List.set_cons_zero, List.set_cons_succ])
                      refine wpAnyH_take (i := 11) (v := ?_) (by simp only [List.getElem?_toArray, List.getElem?_cons_succ, List.getElem?_cons_zero] <;> rfl) (by kernel_rfl) (by kernel_rfl) (by kernel_rfl) (by exact fun _ _ _ h => h) (Or.inl ⟨by rfl, ?_⟩) hHeld ?_
                      rotate_left
                      · intro w hSw; (try dsimp only at hSw); go_simp; (try with_reducible rfl)
                      (try simp only [Act.put, List.setIfInBounds_toArray, List.set_cons_zero, List.set_cons_succ])
                      refine wpAnyH_take (i := 12) (v := ?_) (by simp only [List.getElem?_toArray, List.getElem?_cons_succ, List.getElem?_cons_zero] <;> rfl) (by kernel_rfl) (by kernel_rfl) (by kernel_rfl) (by exact fun _ _ _ h => h) (Or.inl ⟨by rfl, ?_⟩) hHeld ?_
                      rotate_left
                      · intro w hSw; (try dsimp only at hSw); go_simp; (try with_reducible rfl)
                      (try simp only [Act.put, List.setIfInBounds_toArray, List.set_cons_zero, List.set_cons_succ])
                      refine wpAnyH_take (i := 13) (v := ?_) (by simp only [List.getElem?_toArray, List.getElem?_cons_succ, List.getElem?_cons_zero] <;> rfl) (by kernel_rfl) (by kernel_rfl) (by kernel_rfl) (by exact fun _ _ _ h => h) (Or.inl ⟨by rfl, ?_⟩) hHeld ?_
                      rotate_left
                      · intro w hSw; (try dsimp only at hSw); go_simp; (try with_reducible rfl)
                      (try simp only [Act.put, List.setIfInBounds_toArray, List.set_cons_zero, List.set_cons_succ])
                      refine wpAnyH_ready (rs := [8, 14]) (by kernel_rfl) (by simp) ?_
                      refine AllReadyH.cons (by simp only [List.getElem?_toArray, List.getElem?_cons_succ, List.getElem?_cons_zero] <;> rfl) (fun K hK => ?_) (AllReadyH.cons (by simp only [List.getElem?_toArray, List.getElem?_cons_succ, List.getElem?_cons_zero] <;> rfl) (fun K hK => ?_) AllReadyH.nil)
                      · go_simp
                        have HX1 := Lib.hid (room_rat w0)
                        obtain ⟨g6, hg6⟩ : ∃ g, w0.heap.size = g := ⟨_, rfl⟩
                        rw [hg6] at HX1 ⊢
                        generalize w0.alloc (.cells #[.bool false, .slice none 0 0, .bool false, .slice none 0 0] 47) = w6 at *
                        have HB6 := Lib.hid (HB0.out.trans (HX1.out.1.mono (by rw [← hg6]; exact HB0.out.size)))
                        have HG6 : Hid (wr.heap.size ≤ g6) := Lib.hid (by rw [← hg6]; exact HB0.out.size)
                        clear hg6
                        refine hK.out _ _ (HS.out _ HB6.out) (fun hHeld => ?_)
                        clear hK K
                        (try simp only [Act.put, List.setIfInBounds_toArray, List.set_cons_zero, List.set_cons_succ])
                        refine wpAnyH_ready (rs := [14]) (by kernel_rfl) (by simp) ?_
                        refine AllReadyH.cons (by simp only [List.getElem?_toArray, List.getElem?_cons_succ, List.getElem?_cons_zero] <;> rfl) (fun K hK => ?_) AllReadyH.nil
                        go_simp
                        go_at_call 15
                        refine (new_step y _ (by omega) (by omega)).mono ?_
                        rintro e w7 ⟨g7, hg7, rfl, hb7, hr7⟩
                        have HR7 : Hid (Below wr.heap.size wr w7 ∧ RatRoom w7 g6 ∧ RatV w7 gq (rst (fn xs) (fn ys) N D c0) (D * fn ys c0) ∧ RatV w7 g7 y 1) := Lib.hid ⟨HB6.out.trans (hb7.mono HB6.out.size), HX1.out.2.1.below hb7, HNX.out.below (HB6.out.trans (hb7.mono HB6.out.size)), hr7⟩
                        clear hg7 hb7 hr7 HX1
                        go_wp2_with fail
                        refine hK.out _ _ ?_ (fun hHeld => ?_)
                        · exact HS.out _ HR7.out.1
                        clear hK K
                        (try simp only [Act.put, List.setIfInBounds_toArray, List.set_cons_zero, List.set_cons_succ])
                        refine wpAnyH_ready (rs := [15]) (by kernel_rfl) (by simp) ?_
                        refine AllReadyH.cons (by simp only [List.getElem?_toArray, List.getElem?_cons_succ, List.getElem?_cons_zero] <;> rfl) (fun K hK => ?_) AllReadyH.nil
                        go_simp
                        go_at_call 30
                        refine (mul_step HLM.out (y := y) (by omega) HR7.out.2.1 HR7.out.2.2.1 HR7.out.2.2.2).mono ?_
                        rintro e w8 hm8
                        have HM8 := Lib.hid (left_below HR7.out.1 HG6.out hm8)
                        obtain rfl := hm8.1
                        clear hm8
                        go_wp2_with fail
                        refine hK.out _ _ ?_ (fun hHeld => ?_)
                        · exact HS.out _ HM8.out.2.1
                        clear hK K
                        (try simp only [Act.put, List.setIfInBounds_toArray, List.set_cons_zero, List.set_cons_succ])
                        refine wpAnyH_ready (rs := [16]) (by kernel_rfl) (by simp) ?_
                        refine AllReadyH.cons (by simp only [List.getElem?_toArray, List.getElem?_cons_succ, List.getElem?_cons_zero] <;> rfl) (fun K hK => ?_) AllReadyH.nil
                        go_simp
                        go_at_call 31
                        have HK8 : Hid (MI w w8 gl ge M i (gT (fn xs) (fn ys) i) (fn ys) lp ep (fun j => if j < k then rst (fn xs) (fn ys) (fn xs c0) (fn ys c0) j else rst (fn xs) (fn ys) N D j) (fun j => if j < k then fn ys c0 else D) nb (gone (fn xs) (fn ys) i (fn xs c0) (fn ys c0)) (fn ys c0)) := Lib.hid (HM.out.later HM8.out.2.1)
                        have hl8 := HK8.out.left k hi HEP.out
                        rw [if_neg (Nat.lt_irrefl k), if_neg (Nat.lt_irrefl k)] at hl8
                        refine (sub_step (j := c0) HLM.out HC0.out.1 hl8 (by have := HM8.out.2.2; rw [← HY.out] at this; exact this)).mono ?_
                        rintro e w9 ⟨rfl, hg9, hr9⟩
                        have HM9 := Lib.hid (And.intro (HK8.out.move hi hl8.room hg9 hr9) (((HNX.out.below HM8.out.2.1).apart hl8.room hg9 (by have := (HK8.out.low k hi).2; have := HC0.out.2; omega))))
                        have HS9 : Hid ((fun W : World => W.cell? ⟨gl, k, none⟩ = some (.pointer (some ⟨lp k, 0, none⟩)) ∧ W.cell? ⟨b1, o1 + k, none⟩ = some (.int .i64 y)) w9) := Lib.hid (by
                          have hb := HM9.out.1.below
                          exact ⟨HM9.out.1.lcell hi, (hb.cell (p := ⟨b1, o1 + k, none⟩) HOLD.out.1).trans HOLD.out.2⟩)
                        clear hl8 hg9 hr9 HK8
                        go_wp2_with fail
                        refine hK.out _ _ ?_ (fun hHeld => ?_)
                        · exact HS9.out
                        clear hK K
                        (try simp only [Act.put, List.setIfInBounds_toArray, List.set_cons_zero, List.set_cons_succ])
                        refine wpAnyH_done (by kernel_rfl) ?_ _
                        clear HS HS9
                        go_wp2_with fail
                        go_roundg y'
                        case measure => omega
                        case rel => exact ⟨k + 1, by go_num, by have := HIK.out; omega, Lib.hid ⟨HM9.out.1.levels (fun j hj _ => by
                          by_cases c : j = k
                          · subst c; rw [if_pos rfl, if_pos rfl, if_pos (by omega), if_pos (by omega)]; exact ⟨rfl, rfl⟩
                          · rw [if_neg c, if_neg c]
                            by_cases c2 : j < k
                            · rw [if_pos c2, if_pos c2, if_pos (by omega), if_pos (by omega)]; exact ⟨rfl, rfl⟩
                            · rw [if_neg c2, if_neg c2, if_neg (by omega), if_neg (by omega)]; exact ⟨rfl, rfl⟩), HM9.out.2⟩⟩
                      · go_simp
                        go_at_call 15
                        refine (new_step y _ (by omega) (by omega)).mono ?_
                        rintro e w6 ⟨g7, hg7, rfl, hb6, hr6⟩
                        have HB6 := Lib.hid (And.intro (HB0.out.trans (hb6.mono HB0.out.size)) hr6)
                        clear hg7 hb6 hr6
                        go_wp2_with fail
                        refine hK.out _ _ ?_ (fun hHeld => ?_)
                        · exact HS.out _ HB6.out.1
                        clear hK K
                        (try simp only [Act.put, List.setIfInBounds_toArray, List.set_cons_zero, List.set_cons_succ])
                        refine wpAnyH_ready (rs := [8]) (by kernel_rfl) (by simp) ?_
                        refine AllReadyH.cons (by simp only [List.getElem?_toArray, List.getElem?_cons_succ, List.getElem?_cons_zero] <;> rfl) (fun K hK => ?_) AllReadyH.nil
                        go_simp
                        have HX1 := Lib.hid (room_rat w6)
                        obtain ⟨g6, hg6⟩ : ∃ g, w6.heap.size = g := ⟨_, rfl⟩
                        rw [hg6] at HX1 ⊢
                        generalize w6.alloc (.cells #[.bool false, .slice none 0 0, .bool false, .slice none 0 0] 47) = w7 at *
                        have HR7 : Hid (Below wr.heap.size wr w7 ∧ RatRoom w7 g6 ∧ RatV w7 gq (rst (fn xs) (fn ys) N D c0) (D * fn ys c0) ∧ RatV w7 g7 y 1) := Lib.hid (by
                          have hb : Below w6.heap.size w6 w7 := by rw [hg6]; exact HX1.out.1
                          have hb2 := HB6.out.1.trans (hb.mono HB6.out.1.size)
                          exact ⟨hb2, HX1.out.2.1, HNX.out.below hb2, HB6.out.2.below hb⟩)
                        have HG6 : Hid (wr.heap.size ≤ g6) := Lib.hid (by rw [← hg6]; exact HB6.out.1.size)
                        clear hg6 HX1
                        refine hK.out _ _ (HS.out _ HR7.out.1) (fun hHeld => ?_)
                        clear hK K
                        (try simp only [Act.put, List.setIfInBounds_toArray, List.set_cons_zero, List.set_cons_succ])
                        refine wpAnyH_ready (rs := [15]) (by kernel_rfl) (by simp) ?_
                        refine AllReadyH.cons (by simp only [List.getElem?_toArray, List.getElem?_cons_succ, List.getElem?_cons_zero] <;> rfl) (fun K hK => ?_) AllReadyH.nil
                        go_simp
                        go_at_call 30
                        refine (mul_step HLM.out (y := y) (by omega) HR7.out.2.1 HR7.out.2.2.1 HR7.out.2.2.2).mono ?_
                        rintro e w8 hm8
                        have HM8 := Lib.hid (left_below HR7.out.1 HG6.out hm8)
                        obtain rfl := hm8.1
                        clear hm8
                        go_wp2_with fail
                        refine hK.out _ _ ?_ (fun hHeld => ?_)
                        · exact HS.out _ HM8.out.2.1
                        clear hK K
                        (try simp only [Act.put, List.setIfInBounds_toArray, List.set_cons_zero, List.set_cons_succ])
                        refine wpAnyH_ready (rs := [16]) (by kernel_rfl) (by simp) ?_
                        refine AllReadyH.cons (by simp only [List.getElem?_toArray, List.getElem?_cons_succ, List.getElem?_cons_zero] <;> rfl) (fun K hK => ?_) AllReadyH.nil
                        go_simp
                        go_at_call 31
                        have HK8 : Hid (MI w w8 gl ge M i (gT (fn xs) (fn ys) i) (fn ys) lp ep (fun j => if j < k then rst (fn xs) (fn ys) (fn xs c0) (fn ys c0) j else rst (fn xs) (fn ys) N D j) (fun j => if j < k then fn ys c0 else D) nb (gone (fn xs) (fn ys) i (fn xs c0) (fn ys c0)) (fn ys c0)) := Lib.hid (HM.out.later HM8.out.2.1)
                        have hl8 := HK8.out.left k hi HEP.out
                        rw [if_neg (Nat.lt_irrefl k), if_neg (Nat.lt_irrefl k)] at hl8
                        refine (sub_step (j := c0) HLM.out HC0.out.1 hl8 (by have := HM8.out.2.2; rw [← HY.out] at this; exact this)).mono ?_
                        rintro e w9 ⟨rfl, hg9, hr9⟩
                        have HM9 := Lib.hid (And.intro (HK8.out.move hi hl8.room hg9 hr9) (((HNX.out.below HM8.out.2.1).apart hl8.room hg9 (by have := (HK8.out.low k hi).2; have := HC0.out.2; omega))))
                        have HS9 : Hid ((fun W : World => W.cell? ⟨gl, k, none⟩ = some (.pointer (some ⟨lp k, 0, none⟩)) ∧ W.cell? ⟨b1, o1 + k, none⟩ = some (.int .i64 y)) w9) := Lib.hid (by
                          have hb := HM9.out.1.below
                          exact ⟨HM9.out.1.lcell hi, (hb.cell (p := ⟨b1, o1 + k, none⟩) HOLD.out.1).trans HOLD.out.2⟩)
                        clear hl8 hg9 hr9 HK8
                        go_wp2_with fail
                        refine hK.out _ _ ?_ (fun hHeld => ?_)
                        · exact HS9.out
                        clear hK K
                        (try simp only [Act.put, List.setIfInBounds_toArray, List.set_cons_zero, List.set_cons_succ])
                        refine wpAnyH_done (by kernel_rfl) ?_ _
                        clear HS HS9
                        go_wp2_with fail
                        go_roundg y'
                        case measure => omega
                        case rel => exact ⟨k + 1, by go_num, by have := HIK.out; omega, Lib.hid ⟨HM9.out.1.levels (fun j hj _ => by
                          by_cases c : j = k
                          · subst c; rw [if_pos rfl, if_pos rfl, if_pos (by omega), if_pos (by omega)]; exact ⟨rfl, rfl⟩
                          · rw [if_neg c, if_neg c]
                            by_cases c2 : j < k
                            · rw [if_pos c2, if_pos c2, if_pos (by omega), if_pos (by omega)]; exact ⟨rfl, rfl⟩
                            · rw [if_neg c2, if_neg c2, if_neg (by omega), if_neg (by omega)]; exact ⟨rfl, rfl⟩), HM9.out.2⟩⟩
                    · rw [hep] at e0
                      replace e0 : wr.cell? ⟨ge, k, none⟩ = some (.pointer (some ⟨g, 0, none⟩)) := e0
                      have HEP := Lib.hid hep
                      clear hep
                      go_wp2_with fail
                      go_roundg y'
                      case measure => omega
                      case rel => exact ⟨k + 1, by go_num, by have := HIK.out; omega, Lib.hid ⟨HM.out.levels (fun j _ he => by
                        by_cases c : j = k
                        · rw [c, HEP.out] at he; cases he
                        · by_cases c2 : j < k
                          · rw [if_pos c2, if_pos c2, if_pos (by omega), if_pos (by omega)]; exact ⟨rfl, rfl⟩
                          · rw [if_neg c2, if_neg c2, if_neg (by omega), if_neg (by omega)]; exact ⟨rfl, rfl⟩), HNX.out⟩⟩
end Go.Proofs.Ytemoleopabddnaa
