/- Nothing is dropped that fits: the walk of RingDrops. -/
import Derived.Test.YthjnjfolbhhpnaaRg12
import Derived.Test.YthjnjfolbhhpnaaRg7
namespace Go.Proofs.Ythjnjfolbhhpnaa
open Go.RowKit Go.Maps

theorem drops_cases {q : Qu} {n : Int} (h : (q.step 1 n).2.2 = 0) : q.Ok ∧ bad n = false ∧
    ((q.fits n = true ∧ q.step 1 n = ({ q with has := q.has ++ [n] }, 1, 0)) ∨ (q.fits n = false ∧ q.step 1 n = ({ q with dr := q.dr + 1 }, 0, 0) ∧ q.dr ≠ 1099511627776)) := by
  unfold Qu.step at h ⊢
  by_cases hr : q.right = true
  · rw [if_pos hr] at h ⊢
    have ok := Qu.right_iff.1 hr
    have ha : q.act 1 n = q.put n := rfl
    rw [ha] at h ⊢
    by_cases he : (q.put n).2.2 = 0
    · rw [if_pos he] at ⊢
      refine ⟨ok, ?_⟩
      unfold Qu.put at he ⊢
      cases hb : bad n with
      | true => rw [hb, if_pos rfl] at he; exact absurd (show (2 : Int) = 0 from he) (by decide)
      | false =>
        refine ⟨rfl, ?_⟩
        rw [hb, if_neg (by decide)] at he
        rw [if_neg (by decide)]
        cases hf : q.fits n with
        | true => exact .inl ⟨rfl, if_pos rfl⟩
        | false =>
          rw [hf, if_neg (by decide)] at he
          rw [if_neg (by decide)]
          by_cases hd : q.dr = 1099511627776
          · rw [if_pos hd] at he; exact absurd (show (4 : Int) = 0 from he) (by decide)
          · rw [if_neg hd]
            exact .inr ⟨rfl, rfl, hd⟩
    · rw [if_neg he] at h
      exact absurd h he
  · rw [if_neg hr] at h
    exact absurd (show (1 : Int) = 0 from h) (by decide)

set_option maxRecDepth 100000 in
set_option maxHeartbeats 8000000 in
theorem drops_law {w : World} {q : Qu} {A : Option Addr} (hP : IntsIn w A q.has) (cap : Nat) (hnil : A = none → q.has = []) (hn : q.has.length * 8 ≤ 140737488355328) (n : Int) :
    Calls Try.prog 6 #[.agg (q.cells A cap), .int .i64 n] w fun e w' => e = .returned (.bool true) ∧ Below w.heap.size w w' := by
  have b1 : Below w.heap.size w (w.alloc (.cells (q.cells A cap) 24)) := (Below.refl _ _).alloc (Nat.le_refl _) _
  have q1 := QuAt.new w q A cap
  have HA := Lib.hid (fun W => alive8_any W)
  have HS : Hid (∀ W, Below w.heap.size w W → Calls Try.prog 8 #[.agg #[.slice A q.has.length cap, .int .i64 q.most, .int .i64 q.mb, .int .i64 q.dr], .agg #[.int .i64 1, .int .i64 n]] W (Stepped W.heap.size W (q.step 1 n))) := Lib.hid (fun W hW => step_any (hP.below hW) cap hnil hn 1 n)
  have HP := Lib.hid hP
  have HQ := Lib.hid q1
  have HB := Lib.hid b1
  have HN := Lib.hid hn
  have HC := Lib.hid (drops_cases (q := q) (n := n))
  clear b1 q1 hP hnil hn
  unfold Qu.cells at *
  go_enter Try.func6, Try.ntmps6
  go_upto_region 1 with fail
  generalize w.alloc (.cells #[.slice A q.has.length cap, .int .i64 q.most, .int .i64 q.mb, .int .i64 q.dr] 24) = m at *
  go_wp2_with fail
  refine (HA.out m).mono ?_
  rintro e w1 ⟨rfl, hb⟩
  have h1 := HB.out.trans (hb.mono HB.out.size)
  have HQ1 := Lib.hid (HQ.out.below hb)
  have HB1 := Lib.hid h1
  have HS1 := Lib.hid (HS.out w1 h1)
  obtain ⟨x0, x1, x2, x3⟩ := HQ1.out.cells
  clear hb h1 HA HQ HB HS
  generalize q.step 1 n = X at *
  go_wp2_with fail
  refine HS1.out.mono ?_
  rintro e w2 ⟨A1, c1, rfl, hf, hb2⟩
  obtain ⟨r, num, er⟩ := X
  dsimp only at hf HC
  have bo : Below w2.heap.size w2 (w2.alloc (.cells (r.cells A1 c1) 24)) := (Below.refl _ _).alloc (Nat.le_refl _) _
  have hb3 := hb2.trans (bo.mono hb2.size)
  have HQ3 := Lib.hid (HQ1.out.below hb3)
  have HB3 := Lib.hid (HB1.out.trans (hb3.mono HB1.out.size))
  have HP3 := Lib.hid (HP.out.below HB3.out)
  have HF3 := Lib.hid (hf.below bo)
  have HR3 := Lib.hid (QuAt.new w2 r A1 c1)
  clear hf hb2 bo hb3 HS1 HQ1 HB1 HP x0 x1 x2 x3
  unfold Qu.cells at *
  go_upto_region 4 with fail
  generalize w2.alloc (.cells #[.slice A1 r.has.length c1, .int .i64 r.most, .int .i64 r.mb, .int .i64 r.dr] 24) = w3 at *
  generalize w2.heap.size = b5 at *
  by_cases he : er = 0
  · obtain ⟨ok, hbn, hcs⟩ := HC.out he
    subst he
    have ht := bad_false.1 hbn
    have HT : Hid (∀ i, 0 ≤ tot (q.has.take i) ∧ tot (q.has.take i) ≤ 1500 * (q.has.length : Int)) := Lib.hid (fun i => tot_take_bound ok.sizes i)
    obtain ⟨x0, x1, x2, x3⟩ := HQ3.out.cells
    have hsm := ok.small
    obtain ⟨l, hl⟩ : ∃ l, q.has.length = l := ⟨_, rfl⟩
    have HL := Lib.hid hl
    rw [hl] at x0 hsm
    have HO := Lib.hid (And.intro ok (And.intro hbn hcs))
    clear HC ok hbn hcs hl
    go_wp2_with fail
    go_loopg [8, 28] l (fun k s c wr => ∃ i : Nat, c = .int .i64 (i : Int) ∧ i + k = l ∧ wr = w3 ∧ s = .int .i64 (n + tot (q.has.take i)))
    case atStart => exact ⟨0, rfl, by omega, rfl, by simp [tot]⟩
    case round =>
      obtain ⟨i, rfl, hik, rfl, rfl⟩ := hrel
      cases gk with
      | zero =>
        obtain rfl : i = l := by omega
        have e1 : q.has.take i = q.has := List.take_of_length_le (by have := HL.out; omega)
        rw [e1]
        clear e1 HT
        obtain ⟨ok, hbn, hcs⟩ := HO.out
        rcases hcs with ⟨hf, hX⟩ | ⟨hf, hX, hd⟩
        · injection hX with e1 e2
          injection e2 with e2 _
          subst e1 e2
          unfold Qu.fits at hf
          rw [Bool.and_eq_true] at hf
          have g1 : (i : Int) < q.most := by have := of_decide_eq_true hf.1; have := HL.out; omega
          have g2 : n + tot q.has ≤ q.mb := by have := of_decide_eq_true hf.2; omega
          obtain ⟨y0, y1, y2, y3⟩ := HR3.out.cells
          simp only [List.length_append, List.length_singleton] at y0
          rw [HL.out] at y0
          have hw1 : IntKind.i64.wrap ((i : Int) + 1) = (i : Int) + 1 := by simp [IntKind.wrap, IntKind.bits, IntKind.signed]; omega
          dsimp only at y3
          clear HO ok hbn hf HR3 HF3 HP3 HQ3 HL y1 y2
          generalize tot q.has = T at *
          go_wp2_with fail
          go_ret
          exact ⟨rfl, HB3.out⟩
        · injection hX with e1 e2
          injection e2 with e2 _
          subst e1 e2
          obtain ⟨y0, y1, y2, y3⟩ := HR3.out.cells
          dsimp only at y0 y3
          rw [HL.out] at y0
          have hw1 : IntKind.i64.wrap ((i : Int) + 1) = (i : Int) + 1 := by simp [IntKind.wrap, IntKind.bits, IntKind.signed]; omega
          have d1 := ok.dr.1
          have d2 : q.dr ≤ 1099511627776 := ok.dr.2
          have hE : Calls Try.prog 15 #[.slice A1 i c1, .slice A i cap] wr fun e w' => e = .returned (.bool true) ∧ ∃ k, w' = wr.drewN k := by
            have h := equal_any (HF3.out.ints (by have := HL.out; dsimp only; omega)) HP3.out c1 cap
            dsimp only at h
            rw [show decide (q.has = q.has) = true from decide_eq_true rfl, HL.out] at h
            exact h
          have HE := Lib.hid hE
          have HZ : Hid (∀ k, Below w.heap.size w (wr.drewN k)) := Lib.hid (fun k => ⟨HB3.out.os, HB3.out.tape, HB3.out.output, HB3.out.size, HB3.out.block⟩)
          unfold Qu.fits at hf
          by_cases g1 : (i : Int) < q.most
          · have g2 : ¬ n + tot q.has ≤ q.mb := by
              intro h
              rw [decide_eq_true (by have := HL.out; omega), decide_eq_true (by omega)] at hf
              cases hf
            clear HO ok hbn hf HR3 HF3 HP3 HQ3 HL y1 y2 hE hd
            generalize tot q.has = T at *
            go_wp2_with fail
            refine HE.out.mono ?_
            rintro e w5 ⟨rfl, k, rfl⟩
            go_wp2_with fail
            go_ret
            exact ⟨rfl, HZ.out _⟩
          · have g1' : decide ((i : Int) < q.most) = false := decide_eq_false g1
            clear HO ok hbn hf HR3 HF3 HP3 HQ3 HL y1 y2 hE hd g1
            generalize tot q.has = T at *
            go_wp2_with fail
            refine HE.out.mono ?_
            rintro e w5 ⟨rfl, k, rfl⟩
            go_wp2_with fail
            go_ret
            exact ⟨rfl, HZ.out _⟩
      | succ k =>
        have hi : i < l := by omega
        have i1 : (i : Int) < (l : Int) := by omega
        obtain ⟨b, off, x, rfl, hx, hat, hbl⟩ := HP3.out.next (i := i) (by have := HL.out; omega)
        have et : tot (q.has.take (i + 1)) = tot (q.has.take i) + x := by
          rw [take_snocI hx, tot_append]
          simp [tot]
        have hw : IntKind.i64.wrap (n + tot (q.has.take i) + x) = n + tot (q.has.take i) + x := by
          rw [Int.add_assoc, ← et]
          have := HT.out (i + 1)
          have := HL.out
          simp [IntKind.wrap, IntKind.bits, IntKind.signed]
          omega
        have HE : Hid (Value.int .i64 (n + tot (q.has.take i) + x) = .int .i64 (n + tot (q.has.take (i + 1)))) := Lib.hid (by rw [et, Int.add_assoc])
        clear hx et hbl
        generalize tot (q.has.take i) = T at *
        go_wp2_with fail
        go_roundg k
        case measure => omega
        case rel => exact ⟨i + 1, by go_num, by omega, rfl, HE.out⟩
  · have he' : (er != 0) = true := by simpa using he
    clear HC he
    go_wp2_with fail
    go_ret
    exact ⟨rfl, HB3.out⟩
end Go.Proofs.Ythjnjfolbhhpnaa
