/- rules.Prune answers as the reference does: the walk. -/
import Derived.Test.YtandfbepenjbhaaRu6
import Derived.Test.YtandfbepenjbhaaRuG1
import Derived.Test.YtandfbepenjbhaaRuG3
import Derived.Test.YtandfbepenjbhaaRuRow
namespace Go.Proofs.Ytandfbepenjbhaa
open Go.RowKit Go.Maps

theorem val_bits {r : Ru} (h : r.val = true) : 0 ≤ r.sb ∧ r.sb ≤ 32 ∧ 0 ≤ r.db ∧ r.db ≤ 32 := by
  unfold Ru.val btw at h
  simp only [Bool.and_eq_true, decide_eq_true_iff] at h
  exact ⟨h.1.1, h.1.2, h.2.1.1, h.2.1.2⟩
theorem wpList_load_wantR {ops : Array Oper} {rest : List Oper} {o : Oper} {a : Act} {w : World} {Q : Exit → Act → World → Prop} (hgd : Region.wanted o (yielded ops a.tmps) = true) (x : Operand) (ho : o.op = .load 32 x)
    (b f : Nat) (r : Ru) (hx : a.eval x = .pointer (some ⟨b, f, none⟩)) (hg : Hid (RuIn w b f r))
    (k : wpList Try.prog ops Q rest (a.put o.dst (.agg r.cells.toArray)) w) : wpList Try.prog ops Q (o :: rest) a w :=
  BigFrame.wpList_want hgd fun _ hK => by
    unfold Oper.wp execOp
    simp only [ho, hx, Instr.loadAt, Instr.sureAddr, Sem.run_bind, Sem.run_pure, Result.andThen_ok, run_load_ru hg.out]
    exact hK _ _ k
/-- The reference under way: i rules were asked, and K are left of them. -/
structure GpI (B : Nat) (m0 : World) (rs : List Ru) (i : Nat) (v : Value) (K : List Ru) (W : World) : Prop where
  below : Below B m0 W
  own : OwnRus B W v K
  eq : prune [] rs = prune K (rs.drop i)
  len : K.length ≤ i
  ok : ∀ r ∈ K, r.Ok ∧ r.val = true

set_option maxRecDepth 100000 in
set_option maxHeartbeats 8000000 in
theorem prune_law {w : World} {A : Option Addr} {rs : List Ru} {n cap : Nat} (hC : CameR w A cap rs) (hl : rs.length = n) :
    Calls Try.prog 4 #[.slice A n cap] w fun e w' => e = .returned (.bool true) ∧ Below w.heap.size w w' := by
  have h1 := prune_any hC.lies cap hC.room
  have HC := Lib.hid hC
  have HL := Lib.hid hl
  have hlen := hC.lies.len
  rw [hl] at h1 hlen
  have H1 := Lib.hid h1
  have hwr : wrongR rs = if wrongB rs = true then 2 else 0 := rfl
  have HWR := Lib.hid hwr
  have HG : Hid (∀ W, Below w.heap.size w W → Calls Try.prog 11 #[.slice A n cap] W fun e w' => e = .returned (.int .i64 (wrongR rs)) ∧ Below W.heap.size W w') := Lib.hid (fun W hW => by
    have := gWrong_any (HC.out.lies.below hW) cap
    rw [HL.out] at this
    exact this)
  clear h1 hC hl hwr
  generalize wrongR rs = R at *
  go_enter Try.func4, Try.ntmps4
  go_wp2_with fail
  refine H1.out.mono ?_
  rintro e w1 ⟨hb1, ⟨hw, rfl⟩ | ⟨hw, v, rfl, ho⟩⟩
  · have hR : R = 2 := by have := HWR.out; rwa [hw] at this
    subst hR
    have H2 := Lib.hid (HG.out _ hb1)
    have HB1 := Lib.hid hb1
    clear hb1 hw HG H1 HWR
    go_wp2_with fail
    refine H2.out.mono ?_
    rintro e w2 ⟨rfl, hb2⟩
    have HE := Lib.hid (HB1.out.trans (hb2.mono HB1.out.size))
    clear hb2
    go_wp2_with fail
    go_ret
    exact ⟨rfl, HE.out⟩
  · have hR : R = 0 := by have := HWR.out; rwa [hw] at this
    subst hR
    have H2 := Lib.hid (HG.out _ hb1)
    have hwf := wrong_false.1 hw
    have hn4 : n ≤ 400 := by
      have := hwf.1
      have := HL.out
      omega
    have HV := Lib.hid hwf.2
    have hok := prune_sub rs [] Ru.Ok (fun r hr => by cases hr) HC.out.lies.ok
    have hpl : (prune [] rs).length ≤ n := by
      have := prune_len rs []
      have := HL.out
      rw [List.length_nil] at *
      omega
    obtain ⟨A1, cap1, rfl, hin1, hcap1⟩ := ho.form hok (by omega)
    have HI1 := Lib.hid hin1
    have HB1 := Lib.hid hb1
    clear hin1 hcap1 ho hok hwf hw HG H1 HWR hb1
    obtain ⟨m, hm⟩ : ∃ m, (prune [] rs).length = m := ⟨_, rfl⟩
    have HM := Lib.hid hm
    rw [hm] at hpl ⊢
    clear hm
    go_wp2_with fail
    refine H2.out.mono ?_
    rintro e w2 ⟨rfl, hb2⟩
    have HI2 := Lib.hid (HI1.out.below hb2)
    have HB2 := Lib.hid (HB1.out.trans (hb2.mono HB1.out.size))
    clear hb2 H2 HI1 HB1
    go_wp2_with fail
    go_loopg [6, 31] n (fun k v c wr => ∃ (i : Nat) (K : List Ru), c = .int .i64 (i : Int) ∧ i + k = n ∧ Hid (GpI w2.heap.size w2 rs i v K wr))
    case atStart => exact ⟨0, [], rfl, by omega, Lib.hid ⟨Below.refl _ _, World.ownsRow_nil _ _ _ _, rfl, Nat.le_refl _, fun r hr => by cases hr⟩⟩
    case round =>
      obtain ⟨i, K, rfl, hik, HI⟩ := hrel
      cases gk with
      | zero =>
        obtain rfl : i = n := by omega
        have HE : Hid (prune [] rs = K) := Lib.hid (by
          have := HI.out.eq
          rwa [List.drop_eq_nil_of_le (by have := HL.out; omega)] at this)
        have ho := HI.out.own
        rw [← HE.out] at ho
        obtain ⟨A3, cap3, rfl, hin3, _⟩ := ho.form (fun r hr => (HI.out.ok r (by rw [← HE.out]; exact hr)).1) (by have := HM.out; omega)
        have h4 := equal_rus (HI2.out.below HI.out.below) hin3 cap1 cap3
        rw [HM.out] at h4 ⊢
        have H4 := Lib.hid h4
        have HB := Lib.hid (HB2.out.trans (HI.out.below.mono HB2.out.size))
        clear h4 ho hin3 HE
        go_wp2_with fail
        refine H4.out.mono ?_
        rintro e w4 ⟨rfl, hb4⟩
        have HE := Lib.hid (HB.out.trans (hb4.mono HB.out.size))
        clear hb4 H4
        go_wp2_with fail
        go_ret
        exact ⟨rfl, HE.out⟩
      | succ k =>
        have hi : i < n := by omega
        have i1 : (i : Int) < (n : Int) := by omega
        obtain ⟨b, off, r, rfl, hr, hat, hok, hbl⟩ := (HC.out.lies.below (HB2.out.trans (HI.out.below.mono HB2.out.size))).next (i := i) (by have := HL.out; omega)
        obtain ⟨A', cap', rfl, hin, hcap⟩ := HI.out.own.form (fun r hr => (HI.out.ok r hr).1) (by have := HI.out.len; omega)
        have hK := HI.out.len
        have HLD : Hid (RuIn wr b (off + i * 14) r) := Lib.hid hat
        have hz : RuAt (wr.alloc (.cells #[.int .u8 0, .int .u8 0, .int .u8 0, .int .u8 0, .int .u8 0, .int .u8 0, .int .u8 0, .int .u8 0, .int .i64 0, .int .i64 0, .int .i64 0, .int .i64 0, .int .i64 0, .int .i64 0] 32)) wr.heap.size Ru.zero := ruAt_new wr Ru.zero
        have HZ := Lib.hid hz
        have hs : RuAt ((wr.alloc (.cells #[.int .u8 0, .int .u8 0, .int .u8 0, .int .u8 0, .int .u8 0, .int .u8 0, .int .u8 0, .int .u8 0, .int .i64 0, .int .i64 0, .int .i64 0, .int .i64 0, .int .i64 0, .int .i64 0] 32)).setRow wr.heap.size r.cells.toArray) wr.heap.size r := hz.stored r
        have hb1 : Below wr.heap.size wr ((wr.alloc (.cells #[.int .u8 0, .int .u8 0, .int .u8 0, .int .u8 0, .int .u8 0, .int .u8 0, .int .u8 0, .int .u8 0, .int .i64 0, .int .i64 0, .int .i64 0, .int .i64 0, .int .i64 0, .int .i64 0] 32)).setRow wr.heap.size r.cells.toArray) := below_setRow ((Below.refl _ _).alloc (Nat.le_refl _) _) (Nat.le_refl _) _
        have HS := Lib.hid (And.intro hs hb1)
        have HT := Lib.hid (drop_consR hr)
        have HOK := Lib.hid (And.intro hok (HV.out r (List.mem_of_getElem? hr)))
        have HIN := Lib.hid (hin.below hb1)
        clear hs hb1 hz hat hbl hr hok hin
        obtain ⟨q, hq⟩ : ∃ q, K.length = q := ⟨_, rfl⟩
        have HQ := Lib.hid hq
        rw [hq] at hcap hK HI ⊢
        clear hq
        go_upto_region 9 with (first | refine wpList_load_in rfl (.tmp 33) rfl b (off + i * 14) r rfl HLD ?_ | refine wpList_store_ru rfl (.tmp 8) (.tmp 34) rfl wr.heap.size r Ru.zero rfl rfl HZ ?_)
        generalize (wr.alloc (.cells #[.int .u8 0, .int .u8 0, .int .u8 0, .int .u8 0, .int .u8 0, .int .u8 0, .int .u8 0, .int .u8 0, .int .i64 0, .int .i64 0, .int .i64 0, .int .i64 0, .int .i64 0, .int .i64 0] 32)).setRow wr.heap.size r.cells.toArray = V at *
        clear HZ HLD
        go_wp2_with fail
        go_loopg [9, 37] q (fun k2 hv c wz => ∃ j : Nat, c = .int .i64 (j : Int) ∧ j + k2 = q ∧ hv = .bool ((K.take j).any (covers r)) ∧ Hid (Below V.heap.size V wz))
        case atStart => exact ⟨0, rfl, by omega, rfl, Lib.hid (Below.refl _ _)⟩
        case round =>
          obtain ⟨j, rfl, hjk, rfl, HJ⟩ := hrel
          cases gk with
          | zero =>
            obtain rfl : j = q := by omega
            have hfull : K.take j = K := List.take_of_length_le (by have := HQ.out; omega)
            rw [hfull]
            have hb3 := HS.out.2.trans (HJ.out.mono HS.out.2.size)
            have hra := HS.out.1.below HJ.out
            have hbel := HI.out.below.trans (hb3.mono HI.out.below.size)
            have hown := HI.out.own.below hb3
            cases hA : K.any (covers r) with
            | true =>
              have HR : Hid (GpI w2.heap.size w2 rs (i + 1) (.slice A' j cap') K wr) := Lib.hid ⟨hbel, hown, by rw [HI.out.eq, HT.out, prune_skip hA], by have := HQ.out; omega, HI.out.ok⟩
              clear hb3 hra hbel hown HI HS hA hfull HIN
              go_wp2_with fail
              go_roundg k
              case measure => omega
              case rel => exact ⟨i + 1, K, by go_num, by omega, HR⟩
            | false =>
              have hnb := (Below.refl wr.heap.size wr).alloc (Nat.le_refl _) (.cells r.cells.toArray 32)
              obtain ⟨g, cap2, W, hrun, ho, hbW⟩ := rus_append (hown.below hnb) (Nat.le_trans hbel.size hnb.size) (by have := HQ.out; omega) (ruAt_new wr r)
              have HR : Hid (GpI w2.heap.size w2 rs (i + 1) (.slice (some ⟨g, 0, none⟩) (j + 1) cap2) (K ++ [r]) W) := Lib.hid ⟨hbel.trans ((hnb.mono hbel.size).trans hbW), by rw [← HQ.out]; exact ho, by rw [HI.out.eq, HT.out, prune_keep hA], by rw [List.length_append, List.length_singleton]; have := HQ.out; omega, fun x hx => by
                rcases List.mem_append.1 hx with hx | hx
                · exact HI.out.ok x hx
                · obtain rfl : x = r := by simpa using hx
                  exact HOK.out⟩
              have HL2 := Lib.hid hra.isIn
              have hrun0 := hrun 22
              rw [HQ.out] at hrun0
              have hrun' : (Builtin.append_ #[22, 22] 22 #[.slice A' j cap', .slice (some ⟨wr.heap.size, 0, none⟩) 1 1]).run Try.prog (wr.alloc (.cells #[.int .u8 r.src.a0, .int .u8 r.src.a1, .int .u8 r.src.a2, .int .u8 r.src.a3, .int .u8 r.dst.a0, .int .u8 r.dst.a1, .int .u8 r.dst.a2, .int .u8 r.dst.a3, .int .i64 r.sb, .int .i64 r.db, .int .i64 r.pr, .int .i64 r.lo, .int .i64 r.hi, .int .i64 r.cl] 32)) = .ok (.slice (some ⟨g, 0, none⟩) (j + 1) cap2) W := hrun0
              clear hb3 hra hbel hown HI HS hA hfull HIN hnb ho hbW hrun hrun0
              generalize Value.slice A' j cap' = v at *
              go_wp2_with (first | refine wpList_load_lit rfl (.tmp 8) rfl _ 0 r rfl HL2 ?_ | (at_builtin; refine wpList_append_eq rfl (.tmp 50) (.tmp 52) 22 22 rfl rfl rfl hrun' ?_))
              go_roundg k
              case measure => omega
              case rel => exact ⟨i + 1, K ++ [r], by go_num, by omega, HR⟩
          | succ k2 =>
            have hj : j < q := by omega
            have j1 : (j : Int) < (q : Int) := by omega
            obtain ⟨b2, off2, a, rfl, ha, hat2, hok2, hbl2⟩ := (HIN.out.below HJ.out).next (i := j) (by have := HQ.out; omega)
            have HLD : Hid (RuIn wr b2 (off2 + j * 14) a) := Lib.hid hat2
            have hz : RuAt (wr.alloc (.cells #[.int .u8 0, .int .u8 0, .int .u8 0, .int .u8 0, .int .u8 0, .int .u8 0, .int .u8 0, .int .u8 0, .int .i64 0, .int .i64 0, .int .i64 0, .int .i64 0, .int .i64 0, .int .i64 0] 32)) wr.heap.size Ru.zero := ruAt_new wr Ru.zero
            have HZ := Lib.hid hz
            have hs : RuAt ((wr.alloc (.cells #[.int .u8 0, .int .u8 0, .int .u8 0, .int .u8 0, .int .u8 0, .int .u8 0, .int .u8 0, .int .u8 0, .int .i64 0, .int .i64 0, .int .i64 0, .int .i64 0, .int .i64 0, .int .i64 0] 32)).setRow wr.heap.size a.cells.toArray) wr.heap.size a := hz.stored a
            have hb1 : Below wr.heap.size wr ((wr.alloc (.cells #[.int .u8 0, .int .u8 0, .int .u8 0, .int .u8 0, .int .u8 0, .int .u8 0, .int .u8 0, .int .u8 0, .int .i64 0, .int .i64 0, .int .i64 0, .int .i64 0, .int .i64 0, .int .i64 0] 32)).setRow wr.heap.size a.cells.toArray) := below_setRow ((Below.refl _ _).alloc (Nat.le_refl _) _) (Nat.le_refl _) _
            have HSA := Lib.hid hs.isIn
            have HSR := Lib.hid ((HS.out.1.below HJ.out).below hb1).isIn
            have HJ2 := Lib.hid (HJ.out.trans (hb1.mono HJ.out.size))
            have hval := val_bits (HI.out.ok a (List.mem_of_getElem? ha)).2
            have HT2 : Hid ((K.take (j + 1)).any (covers r) = ((K.take j).any (covers r) || covers r a)) := Lib.hid (by rw [take_snocR ha, List.any_append]; simp)
            have HC2 : Hid (∀ W, Calls Try.prog 15 #[.agg a.cells.toArray, .agg r.cells.toArray] W fun e w' => e = .returned (.bool (covers r a)) ∧ Below W.heap.size W w') := Lib.hid (fun W => gCovers_any a r hok2 HOK.out.1 hval.1 hval.2.1 hval.2.2.1 hval.2.2.2 W)
            clear hs hb1 hz hat2 hbl2 ha hok2 hval HIN HI HS
            go_upto_region 13 with (first | refine wpList_load_in rfl (.tmp 39) rfl b2 (off2 + j * 14) a rfl HLD ?_ | refine wpList_store_ru rfl (.tmp 11) (.tmp 40) rfl wr.heap.size a Ru.zero rfl rfl HZ ?_)
            generalize (wr.alloc (.cells #[.int .u8 0, .int .u8 0, .int .u8 0, .int .u8 0, .int .u8 0, .int .u8 0, .int .u8 0, .int .u8 0, .int .i64 0, .int .i64 0, .int .i64 0, .int .i64 0, .int .i64 0, .int .i64 0] 32)).setRow wr.heap.size a.cells.toArray = V2 at *
            clear HZ HLD
            generalize covers r a = cv at *
            cases hA : (K.take j).any (covers r) with
            | true =>
              have HT3 := HT2.out
              rw [hA, Bool.true_or] at HT3
              have HT4 := Lib.hid HT3.symm
              clear HT2 HT3 hA
              go_wp2_with fail
              go_roundg k2
              case measure => omega
              case rel => exact ⟨j + 1, by go_num, by omega, by rw [← HT4.out], HJ2⟩
            | false =>
              have HT3 := HT2.out
              rw [hA, Bool.false_or] at HT3
              have HT4 := Lib.hid HT3.symm
              clear HT2 HT3 hA
              go_wp2_with (first | refine wpList_load_wantR rfl (.tmp 11) rfl _ 0 a rfl HSA ?_ | refine wpList_load_wantR rfl (.tmp 8) rfl _ 0 r rfl HSR ?_)
              refine (HC2.out _).mono ?_
              rintro e w3 ⟨rfl, hb3⟩
              have HJ3 := Lib.hid (HJ2.out.trans (hb3.mono HJ2.out.size))
              clear hb3
              go_wp2_with fail
              go_roundg k2
              case measure => omega
              case rel => exact ⟨j + 1, by go_num, by omega, by rw [← HT4.out], HJ3⟩
end Go.Proofs.Ytandfbepenjbhaa
