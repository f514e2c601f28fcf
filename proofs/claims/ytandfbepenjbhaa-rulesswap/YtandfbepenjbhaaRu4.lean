/- rules.Wrong and Class. -/
import Derived.Test.YtandfbepenjbhaaRu3
namespace Go.Proofs.Ytandfbepenjbhaa
open Go.RowKit Go.Maps

theorem info_head : (Try.prog.info? 25).map (·.size) = some 13 := by kernel_rfl
def HdAt (w : World) (q : Nat) (h : Hd) : Prop := w.heap[q]? = some (.cells h.cells.toArray 25 (0, 0))
theorem HdAt.lt {w : World} {q : Nat} {h : Hd} (k : HdAt w q h) : q < w.heap.size := (Array.getElem?_eq_some_iff.1 k).1
theorem RuAt.lt {w : World} {q : Nat} {h : Ru} (k : RuAt w q h) : q < w.heap.size := (Array.getElem?_eq_some_iff.1 k).1
theorem HdAt.below {w w' : World} {q : Nat} {h : Hd} (k : HdAt w q h) (hb : Below w.heap.size w w') : HdAt w' q h := (hb.block q k.lt).trans k
theorem RuAt.below {w w' : World} {q : Nat} {h : Ru} (k : RuAt w q h) (hb : Below w.heap.size w w') : RuAt w' q h := (hb.block q k.lt).trans k
theorem wpList_load_hd {ops : Array Oper} {rest : List Oper} {o : Oper} {a : Act} {w : World} {Q : Exit → Act → World → Prop} (hgd : o.guard = none) (x : Operand) (ho : o.op = .load 25 x)
    (g : Nat) (h : Hd) (hx : a.eval x = .pointer (some ⟨g, 0, none⟩)) (hg : Hid (HdAt w g h))
    (k : wpList Try.prog ops Q rest (a.put o.dst (.agg h.cells.toArray)) w) : wpList Try.prog ops Q (o :: rest) a w :=
  wpList_load_row hgd 25 x ho g hx 25 h.cells.toArray (0, 0) _ hg.out Try.underlying25 rfl info_head k

set_option maxRecDepth 100000 in
set_option maxHeartbeats 4000000 in
theorem wrong1_any {w : World} (r : Ru) :
    Calls Try.prog 23 #[.agg r.cells.toArray] w fun e w' => e = .returned (.bool (!r.val)) ∧ Below w.heap.size w w' := by
  have H1 := Lib.hid (fun w => valid_any r w)
  have HB : Hid (Below w.heap.size w (w.alloc (.cells #[.int .u8 r.src.a0, .int .u8 r.src.a1, .int .u8 r.src.a2, .int .u8 r.src.a3, .int .u8 r.dst.a0, .int .u8 r.dst.a1, .int .u8 r.dst.a2, .int .u8 r.dst.a3, .int .i64 r.sb, .int .i64 r.db, .int .i64 r.pr, .int .i64 r.lo, .int .i64 r.hi, .int .i64 r.cl] 32))) := Lib.hid ((Below.refl _ _).alloc (Nat.le_refl _) _)
  have HL : Hid (RuIn (w.alloc (.cells #[.int .u8 r.src.a0, .int .u8 r.src.a1, .int .u8 r.src.a2, .int .u8 r.src.a3, .int .u8 r.dst.a0, .int .u8 r.dst.a1, .int .u8 r.dst.a2, .int .u8 r.dst.a3, .int .i64 r.sb, .int .i64 r.db, .int .i64 r.pr, .int .i64 r.lo, .int .i64 r.hi, .int .i64 r.cl] 32)) w.heap.size 0 r) := Lib.hid (RuAt.isIn (heap_alloc_new w _))
  rw [show Calls Try.prog 23 #[.agg r.cells.toArray] w = Calls Try.prog 23 #[.agg #[.int .u8 r.src.a0, .int .u8 r.src.a1, .int .u8 r.src.a2, .int .u8 r.src.a3, .int .u8 r.dst.a0, .int .u8 r.dst.a1, .int .u8 r.dst.a2, .int .u8 r.dst.a3, .int .i64 r.sb, .int .i64 r.db, .int .i64 r.pr, .int .i64 r.lo, .int .i64 r.hi, .int .i64 r.cl]] w from rfl]
  go_enter Try.func23, Try.ntmps23
  go_upto_region 1 with fail
  generalize (w.alloc (.cells #[.int .u8 r.src.a0, .int .u8 r.src.a1, .int .u8 r.src.a2, .int .u8 r.src.a3, .int .u8 r.dst.a0, .int .u8 r.dst.a1, .int .u8 r.dst.a2, .int .u8 r.dst.a3, .int .i64 r.sb, .int .i64 r.db, .int .i64 r.pr, .int .i64 r.lo, .int .i64 r.hi, .int .i64 r.cl] 32)) = m at *
  go_wp2_with (refine wpList_load_in rfl (.tmp 1) rfl w.heap.size 0 r rfl HL ?_)
  refine (H1.out _).mono ?_
  rintro e w1 ⟨rfl, hb⟩
  have HB1 := Lib.hid (HB.out.trans (hb.mono HB.out.size))
  clear hb
  go_wp2_with fail
  go_ret
  exact ⟨rfl, HB1.out⟩
set_option maxRecDepth 100000 in
set_option maxHeartbeats 4000000 in
theorem class1_any {w : World} {bq : Nat} {h : Hd} (hq : HdAt w bq h) (hh : h.Ok) (r : Ru) (hr : r.Ok) :
    Calls Try.prog 22 #[.agg r.cells.toArray, .pointer (some ⟨bq, 0, none⟩)] w fun e w' => e = .returned (.bool (fits h r)) ∧ Below w.heap.size w w' := by
  have H1 := Lib.hid (fun w => fits_any r h hr hh w)
  have HB : Hid (Below w.heap.size w (w.alloc (.cells #[.int .u8 r.src.a0, .int .u8 r.src.a1, .int .u8 r.src.a2, .int .u8 r.src.a3, .int .u8 r.dst.a0, .int .u8 r.dst.a1, .int .u8 r.dst.a2, .int .u8 r.dst.a3, .int .i64 r.sb, .int .i64 r.db, .int .i64 r.pr, .int .i64 r.lo, .int .i64 r.hi, .int .i64 r.cl] 32))) := Lib.hid ((Below.refl _ _).alloc (Nat.le_refl _) _)
  have HL : Hid (RuIn (w.alloc (.cells #[.int .u8 r.src.a0, .int .u8 r.src.a1, .int .u8 r.src.a2, .int .u8 r.src.a3, .int .u8 r.dst.a0, .int .u8 r.dst.a1, .int .u8 r.dst.a2, .int .u8 r.dst.a3, .int .i64 r.sb, .int .i64 r.db, .int .i64 r.pr, .int .i64 r.lo, .int .i64 r.hi, .int .i64 r.cl] 32)) w.heap.size 0 r) := Lib.hid (RuAt.isIn (heap_alloc_new w _))
  have HQ : Hid (HdAt (w.alloc (.cells #[.int .u8 r.src.a0, .int .u8 r.src.a1, .int .u8 r.src.a2, .int .u8 r.src.a3, .int .u8 r.dst.a0, .int .u8 r.dst.a1, .int .u8 r.dst.a2, .int .u8 r.dst.a3, .int .i64 r.sb, .int .i64 r.db, .int .i64 r.pr, .int .i64 r.lo, .int .i64 r.hi, .int .i64 r.cl] 32)) bq h) := Lib.hid (hq.below ((Below.refl _ _).alloc (Nat.le_refl _) _))
  clear hr hh hq
  rw [show Calls Try.prog 22 #[.agg r.cells.toArray, .pointer (some ⟨bq, 0, none⟩)] w = Calls Try.prog 22 #[.agg #[.int .u8 r.src.a0, .int .u8 r.src.a1, .int .u8 r.src.a2, .int .u8 r.src.a3, .int .u8 r.dst.a0, .int .u8 r.dst.a1, .int .u8 r.dst.a2, .int .u8 r.dst.a3, .int .i64 r.sb, .int .i64 r.db, .int .i64 r.pr, .int .i64 r.lo, .int .i64 r.hi, .int .i64 r.cl], .pointer (some ⟨bq, 0, none⟩)] w from rfl]
  go_enter Try.func22, Try.ntmps22
  go_upto_region 1 with fail
  generalize (w.alloc (.cells #[.int .u8 r.src.a0, .int .u8 r.src.a1, .int .u8 r.src.a2, .int .u8 r.src.a3, .int .u8 r.dst.a0, .int .u8 r.dst.a1, .int .u8 r.dst.a2, .int .u8 r.dst.a3, .int .i64 r.sb, .int .i64 r.db, .int .i64 r.pr, .int .i64 r.lo, .int .i64 r.hi, .int .i64 r.cl] 32)) = m at *
  go_wp2_with (first | refine wpList_load_in rfl (.tmp 2) rfl w.heap.size 0 r rfl HL ?_ | refine wpList_load_hd rfl (.tmp 1) rfl bq h rfl HQ ?_)
  refine (H1.out _).mono ?_
  rintro e w1 ⟨rfl, hb⟩
  have HB1 := Lib.hid (HB.out.trans (hb.mono HB.out.size))
  clear hb
  go_wp2_with fail
  go_ret
  exact ⟨rfl, HB1.out⟩
set_option maxRecDepth 100000 in
set_option maxHeartbeats 4000000 in
theorem prune1_any {w : World} {bq : Nat} {b : Ru} (hq : RuAt w bq b) (hb : b.Ok) (r : Ru) (hr : r.Ok) :
    Calls Try.prog 32 #[.agg r.cells.toArray, .pointer (some ⟨bq, 0, none⟩)] w fun e w' => e = .returned (.bool (covers b r)) ∧ Below w.heap.size w w' := by
  have H1 := Lib.hid (fun w => covers_any r b hr hb w)
  have HB : Hid (Below w.heap.size w (w.alloc (.cells #[.int .u8 r.src.a0, .int .u8 r.src.a1, .int .u8 r.src.a2, .int .u8 r.src.a3, .int .u8 r.dst.a0, .int .u8 r.dst.a1, .int .u8 r.dst.a2, .int .u8 r.dst.a3, .int .i64 r.sb, .int .i64 r.db, .int .i64 r.pr, .int .i64 r.lo, .int .i64 r.hi, .int .i64 r.cl] 32))) := Lib.hid ((Below.refl _ _).alloc (Nat.le_refl _) _)
  have HL : Hid (RuIn (w.alloc (.cells #[.int .u8 r.src.a0, .int .u8 r.src.a1, .int .u8 r.src.a2, .int .u8 r.src.a3, .int .u8 r.dst.a0, .int .u8 r.dst.a1, .int .u8 r.dst.a2, .int .u8 r.dst.a3, .int .i64 r.sb, .int .i64 r.db, .int .i64 r.pr, .int .i64 r.lo, .int .i64 r.hi, .int .i64 r.cl] 32)) w.heap.size 0 r) := Lib.hid (RuAt.isIn (heap_alloc_new w _))
  have HQ : Hid (RuIn (w.alloc (.cells #[.int .u8 r.src.a0, .int .u8 r.src.a1, .int .u8 r.src.a2, .int .u8 r.src.a3, .int .u8 r.dst.a0, .int .u8 r.dst.a1, .int .u8 r.dst.a2, .int .u8 r.dst.a3, .int .i64 r.sb, .int .i64 r.db, .int .i64 r.pr, .int .i64 r.lo, .int .i64 r.hi, .int .i64 r.cl] 32)) bq 0 b) := Lib.hid (hq.below ((Below.refl _ _).alloc (Nat.le_refl _) _)).isIn
  clear hr hb hq
  rw [show Calls Try.prog 32 #[.agg r.cells.toArray, .pointer (some ⟨bq, 0, none⟩)] w = Calls Try.prog 32 #[.agg #[.int .u8 r.src.a0, .int .u8 r.src.a1, .int .u8 r.src.a2, .int .u8 r.src.a3, .int .u8 r.dst.a0, .int .u8 r.dst.a1, .int .u8 r.dst.a2, .int .u8 r.dst.a3, .int .i64 r.sb, .int .i64 r.db, .int .i64 r.pr, .int .i64 r.lo, .int .i64 r.hi, .int .i64 r.cl], .pointer (some ⟨bq, 0, none⟩)] w from rfl]
  go_enter Try.func32, Try.ntmps32
  go_upto_region 1 with fail
  generalize (w.alloc (.cells #[.int .u8 r.src.a0, .int .u8 r.src.a1, .int .u8 r.src.a2, .int .u8 r.src.a3, .int .u8 r.dst.a0, .int .u8 r.dst.a1, .int .u8 r.dst.a2, .int .u8 r.dst.a3, .int .i64 r.sb, .int .i64 r.db, .int .i64 r.pr, .int .i64 r.lo, .int .i64 r.hi, .int .i64 r.cl] 32)) = m at *
  go_wp2_with (first | refine wpList_load_in rfl (.tmp 2) rfl w.heap.size 0 r rfl HL ?_ | refine wpList_load_in rfl (.tmp 1) rfl bq 0 b rfl HQ ?_)
  refine (H1.out _).mono ?_
  rintro e w1 ⟨rfl, hb⟩
  have HB1 := Lib.hid (HB.out.trans (hb.mono HB.out.size))
  clear hb
  go_wp2_with fail
  go_ret
  exact ⟨rfl, HB1.out⟩
set_option maxRecDepth 100000 in
set_option maxHeartbeats 4000000 in
theorem wrong_any {w : World} {A : Option Addr} {rs : List Ru} (h : RusIn w A rs) (cap : Nat) (hroom : rs.length ≤ cap) :
    Calls Try.prog 10 #[.slice A rs.length cap] w fun e w' => e = .returned (.int .i64 (wrongR rs)) ∧ Below w.heap.size w w' := by
  have H1 := Lib.hid (containsFunc_wrong (f := fun r => !r.val) ⟨fun W r _ _ => wrong1_any r⟩ h cap hroom)
  have hlen := h.len
  have hR : ∀ b, rs.any (fun r => !r.val) = b → wrongR rs = if 400 < rs.length then 2 else if b = true then 2 else 0 := fun b hb => by
    unfold wrongR wrongB
    rw [hb]
    by_cases c : 400 < rs.length
    · simp [c]
    · simp [c]
  have HR := Lib.hid (hR _ rfl)
  clear hR h hroom
  generalize rs.any (fun r => !r.val) = J at *
  generalize wrongR rs = R at *
  generalize rs.length = n at *
  by_cases c : 400 < n
  · have c' : (400 : Int) < (n : Int) := by omega
    have HR2 := Lib.hid (HR.out.trans (if_pos c))
    clear HR H1
    go_enter Try.func10, Try.ntmps10
    go_wp2_with fail
    go_ret
    exact ⟨ret_int HR2.out.symm, Below.refl _ _⟩
  · have c' : ¬ (400 : Int) < (n : Int) := by omega
    have HR2 := Lib.hid (HR.out.trans (if_neg c))
    clear HR
    go_enter Try.func10, Try.ntmps10
    go_wp2_with fail
    refine H1.out.mono ?_
    rintro e w1 ⟨rfl, hb⟩
    have HB := Lib.hid hb
    clear hb
    cases J with
    | true =>
      go_wp2_with fail
      go_ret
      exact ⟨ret_int HR2.out.symm, HB.out⟩
    | false =>
      go_wp2_with fail
      go_ret
      exact ⟨ret_int HR2.out.symm, HB.out⟩
theorem found_index {h : Hd} {rs : List Ru} {r : Int} (hi : IndexIs (fits h) rs r) : (r = -1 ∧ found h rs = (0, 3)) ∨ ∃ (i : Nat) (x : Ru), r = (i : Int) ∧ i < rs.length ∧ rs[i]? = some x ∧ found h rs = (x.cl, 0) := by
  rcases hi with ⟨rfl, hn⟩ | ⟨i, rfl, hl, hn, x, hx, hf⟩
  · refine .inl ⟨rfl, ?_⟩
    unfold found
    rw [List.find?_eq_none.2 (fun x hx => by simpa using List.any_eq_false.1 hn x hx)]
  · refine .inr ⟨i, x, rfl, hl, hx, ?_⟩
    obtain ⟨hi, e⟩ := List.getElem?_eq_some_iff.1 hx
    have e2 : rs = rs.take i ++ x :: rs.drop (i + 1) := by
      rw [← e, ← List.drop_eq_getElem_cons hi, List.take_append_drop]
    have e3 : found h (rs.take i) = (0, 3) := by
      unfold found
      rw [List.find?_eq_none.2 (fun x hx => by simpa using List.any_eq_false.1 hn x hx)]
    rw [e2, found_none _ (by rw [e3]; decide), found_cons, if_pos hf]

set_option maxRecDepth 100000 in
set_option maxHeartbeats 4000000 in
theorem class_any {w : World} {A : Option Addr} {rs : List Ru} (hP : RusIn w A rs) (cap : Nat) (hroom : rs.length ≤ cap) (h : Hd) (hh : h.Ok) :
    Calls Try.prog 9 #[.slice A rs.length cap, .agg h.cells.toArray] w fun e w' => e = .returned (.tuple #[.int .i64 (class2 rs h).1, .int .i64 (class2 rs h).2]) ∧ Below w.heap.size w w' := by
  have hb0 : Below w.heap.size w (w.alloc (.cells #[.int .u8 h.src.a0, .int .u8 h.src.a1, .int .u8 h.src.a2, .int .u8 h.src.a3, .int .u8 h.dst.a0, .int .u8 h.dst.a1, .int .u8 h.dst.a2, .int .u8 h.dst.a3, .int .i64 h.pr, .int .i64 h.sp, .int .i64 h.dp, .int .i64 h.ln, .int .i64 h.ma] 25)) := (Below.refl _ _).alloc (Nat.le_refl _) _
  have hq : HdAt (w.alloc (.cells #[.int .u8 h.src.a0, .int .u8 h.src.a1, .int .u8 h.src.a2, .int .u8 h.src.a3, .int .u8 h.dst.a0, .int .u8 h.dst.a1, .int .u8 h.dst.a2, .int .u8 h.dst.a3, .int .i64 h.pr, .int .i64 h.sp, .int .i64 h.dp, .int .i64 h.ln, .int .i64 h.ma] 25)) w.heap.size h := heap_alloc_new w _
  have H1 := Lib.hid (wrong_any (hP.below hb0) cap hroom)
  have H2 : Hid (∀ W, Below (w.alloc (.cells #[.int .u8 h.src.a0, .int .u8 h.src.a1, .int .u8 h.src.a2, .int .u8 h.src.a3, .int .u8 h.dst.a0, .int .u8 h.dst.a1, .int .u8 h.dst.a2, .int .u8 h.dst.a3, .int .i64 h.pr, .int .i64 h.sp, .int .i64 h.dp, .int .i64 h.ln, .int .i64 h.ma] 25)).heap.size (w.alloc (.cells #[.int .u8 h.src.a0, .int .u8 h.src.a1, .int .u8 h.src.a2, .int .u8 h.src.a3, .int .u8 h.dst.a0, .int .u8 h.dst.a1, .int .u8 h.dst.a2, .int .u8 h.dst.a3, .int .i64 h.pr, .int .i64 h.sp, .int .i64 h.dp, .int .i64 h.ln, .int .i64 h.ma] 25)) W → Calls Try.prog _ _ W _) := Lib.hid (fun W hW => indexFunc_class (f := fits h) ⟨fun W' r hW' hr => class1_any ((hq.below hW).below hW') hh r (hP.ok r hr)⟩ ((hP.below hb0).below hW) cap hroom)
  have HP := Lib.hid hP
  have HB0 := Lib.hid hb0
  have hlen := hP.len
  have hcls : class2 rs h = if wrongB rs = true then (0, 2) else found h rs := rfl
  have HC := Lib.hid hcls
  have hwr : wrongR rs = if wrongB rs = true then 2 else 0 := rfl
  obtain ⟨n, hn⟩ : ∃ n, rs.length = n := ⟨_, rfl⟩
  have HN := Lib.hid hn
  rw [hn] at hlen hroom H1 H2 ⊢
  clear hn hP hb0 hq hcls
  obtain ⟨X, hX⟩ : ∃ X, X = class2 rs h := ⟨_, rfl⟩
  rw [← hX] at HC ⊢
  clear hX
  generalize wrongR rs = R at *
  rw [show Calls Try.prog 9 #[.slice A n cap, .agg h.cells.toArray] w = Calls Try.prog 9 #[.slice A n cap, .agg #[.int .u8 h.src.a0, .int .u8 h.src.a1, .int .u8 h.src.a2, .int .u8 h.src.a3, .int .u8 h.dst.a0, .int .u8 h.dst.a1, .int .u8 h.dst.a2, .int .u8 h.dst.a3, .int .i64 h.pr, .int .i64 h.sp, .int .i64 h.dp, .int .i64 h.ln, .int .i64 h.ma]] w from rfl]
  cases hw : wrongB rs with
  | true =>
    rw [hw] at HC hwr
    have hR : R = 2 := hwr
    subst hR
    have hXe : X = (0, 2) := HC.out
    subst hXe
    clear hwr HC H2 HP hw
    go_enter Try.func9, Try.ntmps9
    go_wp2_with fail
    generalize (w.alloc (.cells #[.int .u8 h.src.a0, .int .u8 h.src.a1, .int .u8 h.src.a2, .int .u8 h.src.a3, .int .u8 h.dst.a0, .int .u8 h.dst.a1, .int .u8 h.dst.a2, .int .u8 h.dst.a3, .int .i64 h.pr, .int .i64 h.sp, .int .i64 h.dp, .int .i64 h.ln, .int .i64 h.ma] 25)) = m at *
    refine H1.out.mono ?_
    rintro e w1 ⟨rfl, hb⟩
    have HB := Lib.hid (HB0.out.trans (hb.mono HB0.out.size))
    clear hb
    go_wp2_with fail
    go_ret2
    exact ⟨rfl, HB.out⟩
  | false =>
    rw [hw] at HC hwr
    have hR : R = 0 := hwr
    subst hR
    have HX : Hid (X = found h rs) := Lib.hid HC.out
    clear hwr HC hw
    go_enter Try.func9, Try.ntmps9
    go_wp2_with fail
    generalize (w.alloc (.cells #[.int .u8 h.src.a0, .int .u8 h.src.a1, .int .u8 h.src.a2, .int .u8 h.src.a3, .int .u8 h.dst.a0, .int .u8 h.dst.a1, .int .u8 h.dst.a2, .int .u8 h.dst.a3, .int .i64 h.pr, .int .i64 h.sp, .int .i64 h.dp, .int .i64 h.ln, .int .i64 h.ma] 25)) = m at *
    refine H1.out.mono ?_
    rintro e w1 ⟨rfl, hb⟩
    have H3 := Lib.hid (H2.out w1 hb)
    have HB := Lib.hid (HB0.out.trans (hb.mono HB0.out.size))
    clear hb H2 H1
    go_wp2_with fail
    refine H3.out.mono ?_
    rintro e w2 ⟨r, rfl, hi, hb⟩
    have HB2 := Lib.hid (HB.out.trans (hb.mono HB.out.size))
    rcases found_index hi with ⟨rfl, hf⟩ | ⟨i, x, rfl, hil, hx, hf⟩
    · have hXe : X = (0, 3) := HX.out.trans hf
      subst hXe
      clear hi hb hf
      go_wp2_with fail
      go_ret2
      exact ⟨rfl, HB2.out⟩
    · have hXe : X = (x.cl, 0) := HX.out.trans hf
      subst hXe
      obtain ⟨b, off, x', rfl, hx', hat, _, hbl⟩ := (HP.out.below HB2.out).next hil
      rw [hx] at hx'
      injection hx' with hx'
      subst hx'
      rw [HN.out] at hil
      have hc : w2.cell? ⟨b, off + i * 14 + 13, none⟩ = some (.int .i64 x.cl) := hat 13 (by decide)
      have i1 : (i : Int) < (n : Int) := by omega
      clear hi hb hf hx hat hbl HX H3 HP
      go_wp2_with fail
      go_ret2
      exact ⟨rfl, HB2.out⟩
end Go.Proofs.Ytandfbepenjbhaa
