/- rules.Prune. -/
import Derived.Test.YtandfbepenjbhaaRu5
namespace Go.Proofs.Ytandfbepenjbhaa
open Go.RowKit Go.Maps

theorem wpList_load_lit {ops : Array Oper} {rest : List Oper} {o : Oper} {a : Act} {w : World} {Q : Exit → Act → World → Prop} (hgd : o.guard = none) (x : Operand) (ho : o.op = .load 32 x)
    (b f : Nat) (r : Ru) (hx : a.eval x = .pointer (some ⟨b, f, none⟩)) (hg : Hid (RuIn w b f r))
    (k : wpList Try.prog ops Q rest (a.put o.dst (.agg #[.int .u8 r.src.a0, .int .u8 r.src.a1, .int .u8 r.src.a2, .int .u8 r.src.a3, .int .u8 r.dst.a0, .int .u8 r.dst.a1, .int .u8 r.dst.a2, .int .u8 r.dst.a3, .int .i64 r.sb, .int .i64 r.db, .int .i64 r.pr, .int .i64 r.lo, .int .i64 r.hi, .int .i64 r.cl])) w) : wpList Try.prog ops Q (o :: rest) a w := wpList_load_in hgd x ho b f r hx hg k
def Pruned (rs : List Ru) (w : World) (e : Ending) (w' : World) : Prop :=
  Below w.heap.size w w' ∧ ((wrongB rs = true ∧ e = .returned (.tuple #[.slice none 0 0, .int .i64 2])) ∨ (wrongB rs = false ∧ ∃ v, e = .returned (.tuple #[v, .int .i64 0]) ∧ OwnRus w.heap.size w' v (prune [] rs)))
/-- Pruning under way: i rules were asked, and K are left of them. -/
structure PrI (w : World) (rs : List Ru) (i : Nat) (v : Value) (K : List Ru) (W : World) : Prop where
  below : Below w.heap.size w W
  own : OwnRus w.heap.size W v K
  eq : prune [] rs = prune K (rs.drop i)
  len : K.length ≤ i
  ok : ∀ r ∈ K, r.Ok
theorem drop_consR {ps : List Ru} {i : Nat} {p : Ru} (h : ps[i]? = some p) : ps.drop i = p :: ps.drop (i + 1) := by
  obtain ⟨hi, e⟩ := List.getElem?_eq_some_iff.1 h
  rw [List.drop_eq_getElem_cons hi, e]
theorem prune_skip {K l : List Ru} {r : Ru} (h : K.any (covers r) = true) : prune K (r :: l) = prune K l := by rw [prune, if_pos h]
theorem prune_keep {K l : List Ru} {r : Ru} (h : K.any (covers r) = false) : prune K (r :: l) = prune (K ++ [r]) l := by rw [prune, if_neg (by rw [h]; decide)]

set_option maxRecDepth 100000 in
set_option maxHeartbeats 4000000 in
theorem prune_any {w : World} {A : Option Addr} {rs : List Ru} (hP : RusIn w A rs) (cap : Nat) (hroom : rs.length ≤ cap) :
    Calls Try.prog 14 #[.slice A rs.length cap] w (Pruned rs w) := by
  have hw := wrong_any hP cap hroom
  have hwr : wrongR rs = if wrongB rs = true then 2 else 0 := rfl
  have HP := Lib.hid hP
  have hlen := hP.len
  obtain ⟨n, hn⟩ : ∃ n, rs.length = n := ⟨_, rfl⟩
  have HN := Lib.hid hn
  rw [hn] at hlen hroom hw ⊢
  have H1 := Lib.hid hw
  clear hn hP hw
  generalize wrongR rs = R at *
  cases hb : wrongB rs with
  | true =>
    rw [hb] at hwr
    have hR : R = 2 := hwr
    subst hR
    have HX : Hid (∀ e w', Below w.heap.size w w' → e = .returned (.tuple #[.slice none 0 0, .int .i64 2]) → Pruned rs w e w') := Lib.hid (fun e w' h1 h2 => ⟨h1, .inl ⟨hb, h2⟩⟩)
    clear hwr hb HP
    go_enter Try.func14, Try.ntmps14
    go_wp2_with fail
    refine H1.out.mono ?_
    rintro e w1 ⟨rfl, hb⟩
    have HB := Lib.hid hb
    clear hb
    go_wp2_with fail
    go_ret2
    exact HX.out _ _ HB.out rfl
  | false =>
    rw [hb] at hwr
    have hR : R = 0 := hwr
    subst hR
    have hn4 : n ≤ 400 := by
      have := (wrong_false.1 hb).1
      have := HN.out
      omega
    have HX : Hid (∀ e w' v, Below w.heap.size w w' → OwnRus w.heap.size w' v (prune [] rs) → e = .returned (.tuple #[v, .int .i64 0]) → Pruned rs w e w') := Lib.hid (fun e w' v h1 h2 h3 => ⟨h1, .inr ⟨hb, v, h3, h2⟩⟩)
    clear hwr hb
    go_enter Try.func14, Try.ntmps14
    go_wp2_with fail
    refine H1.out.mono ?_
    rintro e w1 ⟨rfl, hb⟩
    have HB := Lib.hid hb
    clear hb H1
    go_wp2_with fail
    go_loopg [5, 16] n (fun k v c wr => ∃ (i : Nat) (K : List Ru), c = .int .i64 (i : Int) ∧ i + k = n ∧ Hid (PrI w rs i v K wr))
    case atStart => exact ⟨0, [], rfl, by omega, Lib.hid ⟨HB.out, World.ownsRow_nil _ _ _ _, rfl, Nat.le_refl _, fun r hr => by cases hr⟩⟩
    case round =>
      clear HB
      obtain ⟨i, K, rfl, hik, HI⟩ := hrel
      cases gk with
      | zero =>
        obtain rfl : i = n := by omega
        have HE : Hid (prune [] rs = K) := Lib.hid (by
          have := HI.out.eq
          rwa [List.drop_eq_nil_of_le (by have := HN.out; omega)] at this)
        have HO := Lib.hid HI.out.own
        have HB := Lib.hid HI.out.below
        rw [← HE.out] at HO
        clear HI HE HP
        go_wp2_with fail
        go_ret2
        exact HX.out _ _ _ HB.out HO.out rfl
      | succ k =>
        have hi : i < n := by omega
        have i1 : (i : Int) < (n : Int) := by omega
        obtain ⟨b, off, r, rfl, hr, hat, hok, hbl⟩ := (HP.out.below HI.out.below).next (i := i) (by have := HN.out; omega)
        obtain ⟨A', cap', rfl, hin, hcap⟩ := HI.out.own.form HI.out.ok (by have := HI.out.len; omega)
        have hK := HI.out.len
        have hat' : RuIn (wr.alloc (.cells Ru.zero.cells.toArray 32)) b (off + i * 14) r := hat.below ((Below.refl _ _).alloc (Nat.le_refl _) _) hbl
        have HL : Hid (RuIn wr b (off + i * 14) r) := Lib.hid hat
        have hz : RuAt (wr.alloc (.cells #[.int .u8 0, .int .u8 0, .int .u8 0, .int .u8 0, .int .u8 0, .int .u8 0, .int .u8 0, .int .u8 0, .int .i64 0, .int .i64 0, .int .i64 0, .int .i64 0, .int .i64 0, .int .i64 0] 32)) wr.heap.size Ru.zero := ruAt_new wr Ru.zero
        have HZ := Lib.hid hz
        have hs : RuAt ((wr.alloc (.cells #[.int .u8 0, .int .u8 0, .int .u8 0, .int .u8 0, .int .u8 0, .int .u8 0, .int .u8 0, .int .u8 0, .int .i64 0, .int .i64 0, .int .i64 0, .int .i64 0, .int .i64 0, .int .i64 0] 32)).setRow wr.heap.size r.cells.toArray) wr.heap.size r := hz.stored r
        have hb1 : Below wr.heap.size wr ((wr.alloc (.cells #[.int .u8 0, .int .u8 0, .int .u8 0, .int .u8 0, .int .u8 0, .int .u8 0, .int .u8 0, .int .u8 0, .int .i64 0, .int .i64 0, .int .i64 0, .int .i64 0, .int .i64 0, .int .i64 0] 32)).setRow wr.heap.size r.cells.toArray) := below_setRow ((Below.refl _ _).alloc (Nat.le_refl _) _) (Nat.le_refl _) _
        have HS := Lib.hid (And.intro hs hb1)
        have HD := fun W (hW : RuAt W wr.heap.size r) (hWb : Below wr.heap.size wr W) => containsFunc_prune (f := covers r) ⟨fun W' x hW' hx => prune1_any (hW.below hW') hok x (HI.out.ok x hx)⟩ (hin.below hWb) cap' hcap
        have HD' := Lib.hid (HD _ hs hb1)
        have HT := Lib.hid (drop_consR hr)
        have HOK := Lib.hid hok
        clear HD hs hb1 hz hat hat' hbl hr hok hin
        obtain ⟨m, hm⟩ : ∃ m, K.length = m := ⟨_, rfl⟩
        have HM := Lib.hid hm
        rw [hm] at HD' hcap hK HI ⊢
        clear hm
        obtain ⟨J, hJ⟩ : ∃ J, K.any (covers r) = J := ⟨_, rfl⟩
        have HJ := Lib.hid hJ
        rw [hJ] at HD'
        clear hJ
        go_upto_region 8 with (first | refine wpList_load_in rfl (.tmp 18) rfl b (off + i * 14) r rfl HL ?_ | refine wpList_store_ru rfl (.tmp 7) (.tmp 19) rfl wr.heap.size r Ru.zero rfl rfl HZ ?_)
        generalize (wr.alloc (.cells #[.int .u8 0, .int .u8 0, .int .u8 0, .int .u8 0, .int .u8 0, .int .u8 0, .int .u8 0, .int .u8 0, .int .i64 0, .int .i64 0, .int .i64 0, .int .i64 0, .int .i64 0, .int .i64 0] 32)).setRow wr.heap.size r.cells.toArray = V at *
        clear HZ HL
        go_wp2_with fail
        refine HD'.out.mono ?_
        rintro e w2 ⟨rfl, hb2⟩
        have hb3 := HS.out.2.trans (hb2.mono HS.out.2.size)
        have hra := HS.out.1.below hb2
        have hbel := HI.out.below.trans (hb3.mono HI.out.below.size)
        have hown := HI.out.own.below hb3
        cases J with
        | true =>
          have HQ : Hid (PrI w rs (i + 1) (.slice A' m cap') K w2) := Lib.hid ⟨hbel, hown, by rw [HI.out.eq, HT.out, prune_skip HJ.out], by have := HM.out; omega, HI.out.ok⟩
          clear hb2 hb3 hra hbel hown HI HS HD' HP
          go_wp2_with fail
          go_roundg k
          case measure => omega
          case rel => exact ⟨i + 1, K, by go_num, by omega, HQ⟩
        | false =>
          have hnb := (Below.refl w2.heap.size w2).alloc (Nat.le_refl _) (.cells r.cells.toArray 32)
          obtain ⟨g, cap2, W, hrun, ho, hbW⟩ := rus_append (hown.below hnb) (Nat.le_trans hbel.size hnb.size) (by have := HM.out; omega) (ruAt_new w2 r)
          have HQ : Hid (PrI w rs (i + 1) (.slice (some ⟨g, 0, none⟩) (m + 1) cap2) (K ++ [r]) W) := Lib.hid ⟨hbel.trans ((hnb.mono hbel.size).trans hbW), by rw [← HM.out]; exact ho, by rw [HI.out.eq, HT.out, prune_keep HJ.out], by rw [List.length_append, List.length_singleton]; have := HM.out; omega, fun x hx => by
            rcases List.mem_append.1 hx with hx | hx
            · exact HI.out.ok x hx
            · obtain rfl : x = r := by simpa using hx
              exact HOK.out⟩
          have HL2 := Lib.hid hra.isIn
          have hrun0 := hrun 22
          rw [HM.out] at hrun0
          have hrun' : (Builtin.append_ #[22, 22] 22 #[.slice A' m cap', .slice (some ⟨w2.heap.size, 0, none⟩) 1 1]).run Try.prog (w2.alloc (.cells #[.int .u8 r.src.a0, .int .u8 r.src.a1, .int .u8 r.src.a2, .int .u8 r.src.a3, .int .u8 r.dst.a0, .int .u8 r.dst.a1, .int .u8 r.dst.a2, .int .u8 r.dst.a3, .int .i64 r.sb, .int .i64 r.db, .int .i64 r.pr, .int .i64 r.lo, .int .i64 r.hi, .int .i64 r.cl] 32)) = .ok (.slice (some ⟨g, 0, none⟩) (m + 1) cap2) W := hrun0
          clear hb2 hb3 hra hbel hown HI HS HD' HP hnb ho hbW hrun hrun0
          generalize Value.slice A' m cap' = v at *
          go_wp2_with (first | refine wpList_load_lit rfl (.tmp 7) rfl wr.heap.size 0 r rfl HL2 ?_ | (at_builtin; refine wpList_append_eq rfl (.tmp 25) (.tmp 27) 22 22 rfl rfl rfl hrun' ?_))
          go_roundg k
          case measure => omega
          case rel => exact ⟨i + 1, K ++ [r], by go_num, by omega, HQ⟩
end Go.Proofs.Ytandfbepenjbhaa
