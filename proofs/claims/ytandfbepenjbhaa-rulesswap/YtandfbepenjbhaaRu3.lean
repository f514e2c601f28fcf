/- Rules in memory; the first one at which a test says yes: slices.IndexFunc, ContainsFunc. -/
import Derived.Test.YtandfbepenjbhaaRu2
namespace Go.Proofs.Ytandfbepenjbhaa
open Go.RowKit Go.Maps

theorem ru_len (r : Ru) : r.cells.length = 14 := rfl
def RuIn (w : World) (b o : Nat) (r : Ru) : Prop := ∀ j, j < 14 → w.cell? ⟨b, o + j, none⟩ = r.cells[j]?
theorem RuIn.below {B : Nat} {w w' : World} {b o : Nat} {r : Ru} (h : RuIn w b o r) (hb : Below B w w') (hl : b < B) : RuIn w' b o r :=
  fun j hj => (hb.cell (p := ⟨b, o + j, none⟩) hl).trans (h j hj)
theorem RuAt.isIn {w : World} {q : Nat} {r : Ru} (h : RuAt w q r) : RuIn w q 0 r := fun j _ => by
  rw [Nat.zero_add, cell_of_row w q j _ _ _ h]
  simp
structure RusIn (w : World) (A : Option Addr) (rs : List Ru) : Prop where
  at_ : 0 < rs.length → ∃ b off, A = some ⟨b, off, none⟩ ∧ b < w.heap.size ∧ ∀ j r, rs[j]? = some r → RuIn w b (off + j * 14) r
  ok : ∀ r ∈ rs, r.Ok
  len : rs.length * 56 ≤ 281474976710656
theorem RusIn.below {w w' : World} {A : Option Addr} {rs : List Ru} (h : RusIn w A rs) (hb : Below w.heap.size w w') : RusIn w' A rs := by
  refine ⟨fun h0 => ?_, h.ok, h.len⟩
  obtain ⟨b, off, e, hl, hc⟩ := h.at_ h0
  exact ⟨b, off, e, Nat.lt_of_lt_of_le hl hb.size, fun j r hr => (hc j r hr).below hb hl⟩
theorem RusIn.next {w : World} {A : Option Addr} {rs : List Ru} (h : RusIn w A rs) {i : Nat} (hi : i < rs.length) : ∃ b off r, A = some ⟨b, off, none⟩ ∧ rs[i]? = some r ∧ RuIn w b (off + i * 14) r ∧ r.Ok ∧ b < w.heap.size := by
  obtain ⟨b, off, e, hl, hc⟩ := h.at_ (by omega)
  have hx : rs[i]? = some rs[i] := List.getElem?_eq_getElem hi
  exact ⟨b, off, _, e, hx, hc i _ hx, h.ok _ (List.getElem_mem hi), hl⟩
theorem take_snocR {rs : List Ru} {i : Nat} {r : Ru} (h : rs[i]? = some r) : rs.take (i + 1) = rs.take i ++ [r] := by
  rw [List.take_add_one, h]; rfl

/-! ### a rule is loaded -/
theorem run_load_ru {w : World} {b o : Nat} {r : Ru} (h : RuIn w b o r) : (loadVar 32 ⟨b, o, none⟩).run Try.prog w = .ok (.agg r.cells.toArray) w := by
  have hl : (loadCells ⟨b, o, none⟩ r.cells.length).run Try.prog w = .ok r.cells.toArray w :=
    run_loadCells_list (P := Try.prog) w ⟨b, o, none⟩ r.cells (fun j v hv => by
      have hadd : (⟨b, o, none⟩ : Addr).add j = ⟨b, o + j, none⟩ := by unfold Addr.add; split <;> simp_all
      have hj : j < 14 := by
        rcases Nat.lt_or_ge j 14 with h | h
        · exact h
        · rw [List.getElem?_eq_none (by rw [ru_len]; exact h)] at hv; cases hv
      rw [hadd, h j hj, hv])
  have hi := info_rule
  cases hq : Try.prog.info? 32 with
  | none => simp [hq] at hi
  | some i =>
    have hs : i.size = 14 := by simpa [hq] using hi
    have hagg : (isAgg 32).run Try.prog w = .ok true w := by
      unfold isAgg
      rw [Sem.run_bind, run_underlying Try.underlying32 w]
      rfl
    rw [ru_len] at hl
    simp [loadVar, Sem.run_bind, hagg, sizeOf, typeInfo, hq, hs, hl]
theorem exec_load_in {o : Oper} {a : Act} {w : World} (x : Operand) (ho : o.op = .load 32 x) (b f : Nat) (r : Ru) (hx : a.eval x = .pointer (some ⟨b, f, none⟩)) (hg : Hid (RuIn w b f r)) :
    (execOp a.eval o).run Try.prog w = .ok (.value (.agg r.cells.toArray)) w := by
  unfold execOp
  simp only [ho, hx, Instr.loadAt, Instr.sureAddr, Sem.run_bind, Sem.run_pure, Result.andThen_ok, run_load_ru hg.out]
theorem wpList_load_in {ops : Array Oper} {rest : List Oper} {o : Oper} {a : Act} {w : World} {Q : Exit → Act → World → Prop} (hgd : o.guard = none) (x : Operand) (ho : o.op = .load 32 x)
    (b f : Nat) (r : Ru) (hx : a.eval x = .pointer (some ⟨b, f, none⟩)) (hg : Hid (RuIn w b f r))
    (k : wpList Try.prog ops Q rest (a.put o.dst (.agg r.cells.toArray)) w) : wpList Try.prog ops Q (o :: rest) a w :=
  wpList_plain hgd fun _ hK => by
    unfold Oper.wp execOp
    simp only [ho, hx, Instr.loadAt, Instr.sureAddr, Sem.run_bind, Sem.run_pure, Result.andThen_ok, run_load_ru hg.out]
    exact hK _ _ k

/-- A test of rules, as a func value with what it caught. -/
structure Tests (w : World) (F : Nat) (caught : Array Value) (f : Ru → Bool) (rs : List Ru) : Prop where
  out : ∀ W r, Below w.heap.size w W → r ∈ rs → Calls Try.prog F (#[.agg r.cells.toArray] ++ caught) W (fun e w' => e = .returned (.bool (f r)) ∧ Below W.heap.size W w')
theorem Tests.below {w w' : World} {F : Nat} {c : Array Value} {f : Ru → Bool} {rs : List Ru} (h : Tests w F c f rs) (hb : Below w.heap.size w w') : Tests w' F c f rs :=
  ⟨fun W r hW hr => h.out W r (hb.trans (hW.mono hb.size)) hr⟩
def IndexIs (f : Ru → Bool) (rs : List Ru) (r : Int) : Prop := (r = -1 ∧ rs.any f = false) ∨ ∃ i : Nat, r = (i : Int) ∧ i < rs.length ∧ (rs.take i).any f = false ∧ ∃ x, rs[i]? = some x ∧ f x = true
theorem IndexIs.any {f : Ru → Bool} {rs : List Ru} {r : Int} (h : IndexIs f rs r) : decide (0 ≤ r) = rs.any f := by
  rcases h with ⟨rfl, h⟩ | ⟨i, rfl, _, _, x, hx, hf⟩
  · rw [h]; rfl
  · rw [List.any_eq_true.2 ⟨x, List.mem_of_getElem? hx, hf⟩]
    exact decide_eq_true (by omega)
set_option maxRecDepth 100000 in
set_option maxHeartbeats 4000000 in
theorem indexFunc_wrong {w : World} {f : Ru → Bool} {rs : List Ru} (hf : Tests w 23 #[] f rs) {A : Option Addr} (hP : RusIn w A rs) (cap : Nat) (hroom : rs.length ≤ cap) :
    Calls Try.prog 19 #[.slice A rs.length cap, .func (.func 23) #[] #[]] w fun e w' => ∃ r : Int, e = .returned (.int .i64 r) ∧ IndexIs f rs r ∧ Below w.heap.size w w' := by
  have hlen := hP.len
  obtain ⟨n, hn⟩ : ∃ n, rs.length = n := ⟨_, rfl⟩
  have HN := Lib.hid hn
  have HP := Lib.hid hP
  have HF := Lib.hid hf
  rw [hn] at hlen hroom ⊢
  clear hn hP hf
  go_enter Try.func19, Try.ntmps19
  go_wp2_with fail
  go_loopg [8] n (fun k c wr => ∃ i : Nat, c = .int .i64 (i : Int) ∧ i + k = n ∧ Hid (Below w.heap.size w wr ∧ (rs.take i).any f = false))
  case atStart => exact ⟨0, rfl, by omega, Lib.hid ⟨Below.refl _ _, rfl⟩⟩
  case round =>
    obtain ⟨i, rfl, hik, HI⟩ := hrel
    cases gk with
    | zero =>
      obtain rfl : i = n := by omega
      have HE : Hid (rs.any f = false) := Lib.hid (by
        have := HI.out.2
        rwa [List.take_of_length_le (by have := HN.out; omega)] at this)
      have HB := Lib.hid HI.out.1
      clear HI HP HF HN
      go_wp2_with fail
      go_ret
      exact ⟨-1, rfl, .inl ⟨rfl, HE.out⟩, HB.out⟩
    | succ k =>
      have hi : i < n := by omega
      have i1 : (i : Int) < (n : Int) := by omega
      obtain ⟨b, off, r, rfl, hr, hat, hok, hbl⟩ := (HP.out.below HI.out.1).next (i := i) (by have := HN.out; omega)
      have HL := Lib.hid hat
      have hD : Calls Try.prog 23 #[.agg r.cells.toArray] wr _ := HF.out.out wr r HI.out.1 (List.mem_of_getElem? hr)
      have HD := Lib.hid hD
      have HA : Hid ((rs.take (i + 1)).any f = f r) := Lib.hid (by
        rw [take_snocR hr, List.any_append, HI.out.2]
        simp)
      have HY : Hid (f r = true → IndexIs f rs (i : Int)) := Lib.hid (fun h => .inr ⟨i, rfl, by have := HN.out; omega, HI.out.2, r, hr, h⟩)
      have HB := Lib.hid HI.out.1
      clear hr hok hbl HI HP HF hat hD
      generalize f r = J at *
      go_wp2_with (refine wpList_load_in rfl (.tmp 14) rfl b (off + i * 14) r rfl HL ?_)
      refine HD.out.mono ?_
      rintro e w2 ⟨rfl, hb2⟩
      have HB2 := Lib.hid (HB.out.trans (hb2.mono HB.out.size))
      clear hb2 HD HB HL
      cases J with
      | true =>
        have HZ := Lib.hid (HY.out rfl)
        go_wp2_with fail
        go_ret
        exact ⟨(i : Int), rfl, HZ.out, HB2.out⟩
      | false =>
        go_wp2_with fail
        go_roundg k
        case measure => omega
        case rel => exact ⟨i + 1, by go_num, by omega, Lib.hid ⟨HB2.out, HA.out⟩⟩
set_option maxRecDepth 100000 in
set_option maxHeartbeats 4000000 in
theorem containsFunc_wrong {w : World} {f : Ru → Bool} {rs : List Ru} (hf : Tests w 23 #[] f rs) {A : Option Addr} (hP : RusIn w A rs) (cap : Nat) (hroom : rs.length ≤ cap) :
    Calls Try.prog 25 #[.slice A rs.length cap, .func (.func 23) #[] #[]] w fun e w' => e = .returned (.bool (rs.any f)) ∧ Below w.heap.size w w' := by
  have H := Lib.hid (indexFunc_wrong hf hP cap hroom)
  clear hf hP hroom
  generalize rs.length = n at *
  go_enter Try.func25, Try.ntmps25
  go_wp2_with fail
  refine H.out.mono ?_
  rintro e w1 ⟨r, rfl, hr, hb⟩
  have HR := Lib.hid (And.intro hr.any hb)
  clear hr hb
  go_wp2_with fail
  go_ret
  exact ⟨ret_bool HR.out.1, HR.out.2⟩
set_option maxRecDepth 100000 in
set_option maxHeartbeats 4000000 in
theorem indexFunc_class {w : World} {bq : Nat} {f : Ru → Bool} {rs : List Ru} (hf : Tests w 22 #[.pointer (some ⟨bq, 0, none⟩)] f rs) {A : Option Addr} (hP : RusIn w A rs) (cap : Nat) (hroom : rs.length ≤ cap) :
    Calls Try.prog 19 #[.slice A rs.length cap, .func (.func 22) #[] #[.pointer (some ⟨bq, 0, none⟩)]] w fun e w' => ∃ r : Int, e = .returned (.int .i64 r) ∧ IndexIs f rs r ∧ Below w.heap.size w w' := by
  have hlen := hP.len
  obtain ⟨n, hn⟩ : ∃ n, rs.length = n := ⟨_, rfl⟩
  have HN := Lib.hid hn
  have HP := Lib.hid hP
  have HF := Lib.hid hf
  rw [hn] at hlen hroom ⊢
  clear hn hP hf
  go_enter Try.func19, Try.ntmps19
  go_wp2_with fail
  go_loopg [8] n (fun k c wr => ∃ i : Nat, c = .int .i64 (i : Int) ∧ i + k = n ∧ Hid (Below w.heap.size w wr ∧ (rs.take i).any f = false))
  case atStart => exact ⟨0, rfl, by omega, Lib.hid ⟨Below.refl _ _, rfl⟩⟩
  case round =>
    obtain ⟨i, rfl, hik, HI⟩ := hrel
    cases gk with
    | zero =>
      obtain rfl : i = n := by omega
      have HE : Hid (rs.any f = false) := Lib.hid (by
        have := HI.out.2
        rwa [List.take_of_length_le (by have := HN.out; omega)] at this)
      have HB := Lib.hid HI.out.1
      clear HI HP HF HN
      go_wp2_with fail
      go_ret
      exact ⟨-1, rfl, .inl ⟨rfl, HE.out⟩, HB.out⟩
    | succ k =>
      have hi : i < n := by omega
      have i1 : (i : Int) < (n : Int) := by omega
      obtain ⟨b, off, r, rfl, hr, hat, hok, hbl⟩ := (HP.out.below HI.out.1).next (i := i) (by have := HN.out; omega)
      have HL := Lib.hid hat
      have hD : Calls Try.prog 22 #[.agg r.cells.toArray, .pointer (some ⟨bq, 0, none⟩)] wr _ := HF.out.out wr r HI.out.1 (List.mem_of_getElem? hr)
      have HD := Lib.hid hD
      have HA : Hid ((rs.take (i + 1)).any f = f r) := Lib.hid (by
        rw [take_snocR hr, List.any_append, HI.out.2]
        simp)
      have HY : Hid (f r = true → IndexIs f rs (i : Int)) := Lib.hid (fun h => .inr ⟨i, rfl, by have := HN.out; omega, HI.out.2, r, hr, h⟩)
      have HB := Lib.hid HI.out.1
      clear hr hok hbl HI HP HF hat hD
      generalize f r = J at *
      go_wp2_with (refine wpList_load_in rfl (.tmp 14) rfl b (off + i * 14) r rfl HL ?_)
      refine HD.out.mono ?_
      rintro e w2 ⟨rfl, hb2⟩
      have HB2 := Lib.hid (HB.out.trans (hb2.mono HB.out.size))
      clear hb2 HD HB HL
      cases J with
      | true =>
        have HZ := Lib.hid (HY.out rfl)
        go_wp2_with fail
        go_ret
        exact ⟨(i : Int), rfl, HZ.out, HB2.out⟩
      | false =>
        go_wp2_with fail
        go_roundg k
        case measure => omega
        case rel => exact ⟨i + 1, by go_num, by omega, Lib.hid ⟨HB2.out, HA.out⟩⟩
set_option maxRecDepth 100000 in
set_option maxHeartbeats 4000000 in
theorem indexFunc_prune {w : World} {bq : Nat} {f : Ru → Bool} {rs : List Ru} (hf : Tests w 32 #[.pointer (some ⟨bq, 0, none⟩)] f rs) {A : Option Addr} (hP : RusIn w A rs) (cap : Nat) (hroom : rs.length ≤ cap) :
    Calls Try.prog 19 #[.slice A rs.length cap, .func (.func 32) #[] #[.pointer (some ⟨bq, 0, none⟩)]] w fun e w' => ∃ r : Int, e = .returned (.int .i64 r) ∧ IndexIs f rs r ∧ Below w.heap.size w w' := by
  have hlen := hP.len
  obtain ⟨n, hn⟩ : ∃ n, rs.length = n := ⟨_, rfl⟩
  have HN := Lib.hid hn
  have HP := Lib.hid hP
  have HF := Lib.hid hf
  rw [hn] at hlen hroom ⊢
  clear hn hP hf
  go_enter Try.func19, Try.ntmps19
  go_wp2_with fail
  go_loopg [8] n (fun k c wr => ∃ i : Nat, c = .int .i64 (i : Int) ∧ i + k = n ∧ Hid (Below w.heap.size w wr ∧ (rs.take i).any f = false))
  case atStart => exact ⟨0, rfl, by omega, Lib.hid ⟨Below.refl _ _, rfl⟩⟩
  case round =>
    obtain ⟨i, rfl, hik, HI⟩ := hrel
    cases gk with
    | zero =>
      obtain rfl : i = n := by omega
      have HE : Hid (rs.any f = false) := Lib.hid (by
        have := HI.out.2
        rwa [List.take_of_length_le (by have := HN.out; omega)] at this)
      have HB := Lib.hid HI.out.1
      clear HI HP HF HN
      go_wp2_with fail
      go_ret
      exact ⟨-1, rfl, .inl ⟨rfl, HE.out⟩, HB.out⟩
    | succ k =>
      have hi : i < n := by omega
      have i1 : (i : Int) < (n : Int) := by omega
      obtain ⟨b, off, r, rfl, hr, hat, hok, hbl⟩ := (HP.out.below HI.out.1).next (i := i) (by have := HN.out; omega)
      have HL := Lib.hid hat
      have hD : Calls Try.prog 32 #[.agg r.cells.toArray, .pointer (some ⟨bq, 0, none⟩)] wr _ := HF.out.out wr r HI.out.1 (List.mem_of_getElem? hr)
      have HD := Lib.hid hD
      have HA : Hid ((rs.take (i + 1)).any f = f r) := Lib.hid (by
        rw [take_snocR hr, List.any_append, HI.out.2]
        simp)
      have HY : Hid (f r = true → IndexIs f rs (i : Int)) := Lib.hid (fun h => .inr ⟨i, rfl, by have := HN.out; omega, HI.out.2, r, hr, h⟩)
      have HB := Lib.hid HI.out.1
      clear hr hok hbl HI HP HF hat hD
      generalize f r = J at *
      go_wp2_with (refine wpList_load_in rfl (.tmp 14) rfl b (off + i * 14) r rfl HL ?_)
      refine HD.out.mono ?_
      rintro e w2 ⟨rfl, hb2⟩
      have HB2 := Lib.hid (HB.out.trans (hb2.mono HB.out.size))
      clear hb2 HD HB HL
      cases J with
      | true =>
        have HZ := Lib.hid (HY.out rfl)
        go_wp2_with fail
        go_ret
        exact ⟨(i : Int), rfl, HZ.out, HB2.out⟩
      | false =>
        go_wp2_with fail
        go_roundg k
        case measure => omega
        case rel => exact ⟨i + 1, by go_num, by omega, Lib.hid ⟨HB2.out, HA.out⟩⟩
set_option maxRecDepth 100000 in
set_option maxHeartbeats 4000000 in
theorem containsFunc_prune {w : World} {bq : Nat} {f : Ru → Bool} {rs : List Ru} (hf : Tests w 32 #[.pointer (some ⟨bq, 0, none⟩)] f rs) {A : Option Addr} (hP : RusIn w A rs) (cap : Nat) (hroom : rs.length ≤ cap) :
    Calls Try.prog 25 #[.slice A rs.length cap, .func (.func 32) #[] #[.pointer (some ⟨bq, 0, none⟩)]] w fun e w' => e = .returned (.bool (rs.any f)) ∧ Below w.heap.size w w' := by
  have H := Lib.hid (indexFunc_prune hf hP cap hroom)
  clear hf hP hroom
  generalize rs.length = n at *
  go_enter Try.func25, Try.ntmps25
  go_wp2_with fail
  refine H.out.mono ?_
  rintro e w1 ⟨r, rfl, hr, hb⟩
  have HR := Lib.hid (And.intro hr.any hb)
  clear hr hb
  go_wp2_with fail
  go_ret
  exact ⟨ret_bool HR.out.1, HR.out.2⟩
end Go.Proofs.Ytandfbepenjbhaa
