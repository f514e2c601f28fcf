/- The reference for package rules: GWrong. -/
import Derived.Test.YtandfbepenjbhaaRu5
namespace Go.Proofs.Ytandfbepenjbhaa
open Go.RowKit Go.Maps

/-- The first i rules are as they must be, and there are not too many. -/
def okR (rs : List Ru) (i : Nat) : Bool := decide (rs.length ≤ 400) && (rs.take i).all Ru.val
theorem okR_all (rs : List Ru) : wrongR rs = if okR rs rs.length = true then 0 else 2 := by
  unfold wrongR okR wrongB
  rw [List.take_length]
  by_cases c : rs.length ≤ 400
  · rw [decide_eq_true c, decide_eq_false (by omega)]
    cases h : rs.all Ru.val with
    | true =>
      rw [List.any_eq_false.2 (fun x hx => by rw [List.all_eq_true.1 h x hx]; decide)]
      rfl
    | false =>
      obtain ⟨x, hx, hv⟩ := List.all_eq_false.1 h
      rw [List.any_eq_true.2 ⟨x, hx, by simpa using hv⟩]
      rfl
  · rw [decide_eq_false c, decide_eq_true (show 400 < rs.length by omega)]
    rfl
theorem okR_next {rs : List Ru} {i : Nat} {r : Ru} (h : rs[i]? = some r) : okR rs (i + 1) = (okR rs i && r.val) := by
  unfold okR
  rw [take_snocR h, List.all_append]
  simp [Bool.and_assoc]
theorem bool_eq {a b : Bool} (h : a = b) : Value.bool a = .bool b := by rw [h]

set_option maxRecDepth 100000 in
set_option maxHeartbeats 8000000 in
theorem gWrong_any {w : World} {A : Option Addr} {rs : List Ru} (hP : RusIn w A rs) (cap : Nat) :
    Calls Try.prog 11 #[.slice A rs.length cap] w fun e w' => e = .returned (.int .i64 (wrongR rs)) ∧ Below w.heap.size w w' := by
  have hlen := hP.len
  have HP := Lib.hid hP
  obtain ⟨n, hn⟩ : ∃ n, rs.length = n := ⟨_, rfl⟩
  have HN := Lib.hid hn
  have HZ : Hid (okR rs 0 = decide ((n : Int) ≤ 400)) := Lib.hid (by
    unfold okR
    rw [hn]
    simp only [List.take_zero, List.all_nil, Bool.and_true]
    by_cases c : n ≤ 400
    · rw [decide_eq_true c, decide_eq_true (by omega)]
    · rw [decide_eq_false c, decide_eq_false (by omega)])
  have HR : Hid (wrongR rs = if okR rs n = true then 0 else 2) := Lib.hid (by rw [okR_all, hn])
  rw [hn] at hlen ⊢
  clear hn hP
  generalize wrongR rs = R at *
  go_enter Try.func11, Try.ntmps11
  go_wp2_with fail
  go_loopg [3, 13] n (fun k ov c wr => ∃ i : Nat, c = .int .i64 (i : Int) ∧ i + k = n ∧ ov = .bool (okR rs i) ∧ Hid (Below w.heap.size w wr))
  case atStart => exact ⟨0, rfl, by omega, bool_eq HZ.out.symm, Lib.hid (Below.refl _ _)⟩
  case round =>
    clear HZ
    obtain ⟨i, rfl, hik, rfl, HI⟩ := hrel
    cases gk with
    | zero =>
      obtain rfl : i = n := by omega
      clear HP
      generalize okR rs i = J at *
      cases J with
      | true =>
        go_wp2_with fail
        go_ret
        exact ⟨ret_int HR.out.symm, HI.out⟩
      | false =>
        go_wp2_with fail
        go_ret
        exact ⟨ret_int HR.out.symm, HI.out⟩
    | succ k =>
      have hi : i < n := by omega
      have i1 : (i : Int) < (n : Int) := by omega
      obtain ⟨b, off, r, rfl, hr, hat, _, hbl⟩ := (HP.out.below HI.out).next (i := i) (by have := HN.out; omega)
      have HL : Hid (RuIn wr b (off + i * 14) r) := Lib.hid hat
      have hz : RuAt (wr.alloc (.cells #[.int .u8 0, .int .u8 0, .int .u8 0, .int .u8 0, .int .u8 0, .int .u8 0, .int .u8 0, .int .u8 0, .int .i64 0, .int .i64 0, .int .i64 0, .int .i64 0, .int .i64 0, .int .i64 0] 32)) wr.heap.size Ru.zero := ruAt_new wr Ru.zero
      have HZ := Lib.hid hz
      have hs : RuAt ((wr.alloc (.cells #[.int .u8 0, .int .u8 0, .int .u8 0, .int .u8 0, .int .u8 0, .int .u8 0, .int .u8 0, .int .u8 0, .int .i64 0, .int .i64 0, .int .i64 0, .int .i64 0, .int .i64 0, .int .i64 0] 32)).setRow wr.heap.size r.cells.toArray) wr.heap.size r := hz.stored r
      have hb1 : Below wr.heap.size wr ((wr.alloc (.cells #[.int .u8 0, .int .u8 0, .int .u8 0, .int .u8 0, .int .u8 0, .int .u8 0, .int .u8 0, .int .u8 0, .int .i64 0, .int .i64 0, .int .i64 0, .int .i64 0, .int .i64 0, .int .i64 0] 32)).setRow wr.heap.size r.cells.toArray) := below_setRow ((Below.refl _ _).alloc (Nat.le_refl _) _) (Nat.le_refl _) _
      have HS := Lib.hid (And.intro hs hb1)
      have HV : Hid (r.val = (btw r.sb 0 32 && (btw r.db 0 32 && (btw r.pr 0 255 && (decide (0 ≤ r.lo) && (decide (r.lo ≤ r.hi) && (decide (r.hi ≤ 65535) && btw r.cl 0 15))))))) := Lib.hid rfl
      have HO := Lib.hid (okR_next hr)
      generalize hJ : okR rs i = J at *
      clear hs hb1 hz hat hbl hr hJ
      go_upto_region 5 with (first | refine wpList_load_in rfl (.tmp 15) rfl b (off + i * 14) r rfl HL ?_ | refine wpList_store_ru rfl (.tmp 5) (.tmp 16) rfl wr.heap.size r Ru.zero rfl rfl HZ ?_)
      generalize (wr.alloc (.cells #[.int .u8 0, .int .u8 0, .int .u8 0, .int .u8 0, .int .u8 0, .int .u8 0, .int .u8 0, .int .u8 0, .int .i64 0, .int .i64 0, .int .i64 0, .int .i64 0, .int .i64 0, .int .i64 0] 32)).setRow wr.heap.size r.cells.toArray = V at *
      have hV : V.cell? ⟨wr.heap.size, 8, none⟩ = some (.int .i64 r.sb) ∧ V.cell? ⟨wr.heap.size, 9, none⟩ = some (.int .i64 r.db) ∧ V.cell? ⟨wr.heap.size, 10, none⟩ = some (.int .i64 r.pr) ∧ V.cell? ⟨wr.heap.size, 11, none⟩ = some (.int .i64 r.lo) ∧ V.cell? ⟨wr.heap.size, 12, none⟩ = some (.int .i64 r.hi) ∧ V.cell? ⟨wr.heap.size, 13, none⟩ = some (.int .i64 r.cl) := by
        have e1 := HS.out.1
        exact ⟨cell_of_row _ _ 8 _ _ _ e1, cell_of_row _ _ 9 _ _ _ e1, cell_of_row _ _ 10 _ _ _ e1, cell_of_row _ _ 11 _ _ _ e1, cell_of_row _ _ 12 _ _ _ e1, cell_of_row _ _ 13 _ _ _ e1⟩
      obtain ⟨v0, v1, v2, v3, v4, v5⟩ := hV
      have hw2 : (V.alloc (.cells #[.int .i64 r.sb, .int .i64 r.db] 3)).cell? ⟨V.heap.size, 0, none⟩ = some (.int .i64 r.sb) ∧ (V.alloc (.cells #[.int .i64 r.sb, .int .i64 r.db] 3)).cell? ⟨V.heap.size, 1, none⟩ = some (.int .i64 r.db) ∧ Below V.heap.size V (V.alloc (.cells #[.int .i64 r.sb, .int .i64 r.db] 3)) := by
        refine ⟨?_, ?_, (Below.refl _ _).alloc (Nat.le_refl _) _⟩ <;> rw [cell_of_row _ V.heap.size _ _ _ _ (heap_alloc_new V _)] <;> rfl
      have HW := Lib.hid hw2
      clear hw2 HL HZ
      go_wp2_with fail
      generalize V.alloc (.cells #[.int .i64 r.sb, .int .i64 r.db] 3) = U at *
      clear v0 v1 v2 v3 v4 v5
      obtain ⟨u0, u1, hub⟩ := HW.out
      have HU : Hid (U.cell? ⟨wr.heap.size, 8, none⟩ = some (.int .i64 r.sb) ∧ U.cell? ⟨wr.heap.size, 9, none⟩ = some (.int .i64 r.db) ∧ U.cell? ⟨wr.heap.size, 10, none⟩ = some (.int .i64 r.pr) ∧ U.cell? ⟨wr.heap.size, 11, none⟩ = some (.int .i64 r.lo) ∧ U.cell? ⟨wr.heap.size, 12, none⟩ = some (.int .i64 r.hi) ∧ U.cell? ⟨wr.heap.size, 13, none⟩ = some (.int .i64 r.cl)) := Lib.hid (by
        have e1 := HS.out.1.below hub
        exact ⟨cell_of_row _ _ 8 _ _ _ e1, cell_of_row _ _ 9 _ _ _ e1, cell_of_row _ _ 10 _ _ _ e1, cell_of_row _ _ 11 _ _ _ e1, cell_of_row _ _ 12 _ _ _ e1, cell_of_row _ _ 13 _ _ _ e1⟩)
      have HB := Lib.hid (HI.out.trans ((HS.out.2.trans (hub.mono HS.out.2.size)).mono HI.out.size))
      clear hub HW HS HI
      go_loopg [3, 23] 2 (fun k ov c wz => wz = U ∧ Hid ((k = 2 ∧ c = .int .i64 0 ∧ ov = .bool J) ∨ (k = 1 ∧ c = .int .i64 1 ∧ ov = .bool (J && btw r.sb 0 32)) ∨ (k = 0 ∧ c = .int .i64 2 ∧ ov = .bool ((J && btw r.sb 0 32) && btw r.db 0 32))))
      case atStart => exact ⟨rfl, Lib.hid (.inl ⟨rfl, rfl, rfl⟩)⟩
      case round =>
        obtain ⟨rfl, HC⟩ := hrel
        rcases HC.out with ⟨rfl, rfl, rfl⟩ | ⟨rfl, rfl, rfl⟩ | ⟨rfl, rfl, rfl⟩
        · clear HC HO
          cases J with
          | false =>
            go_wp2_with fail
            go_roundg 1
            case measure => omega
            case rel => exact ⟨rfl, Lib.hid (.inr (.inl ⟨rfl, rfl, rfl⟩))⟩
          | true =>
            by_cases d0 : 0 ≤ r.sb
            case neg =>
              go_wp2_with fail
              go_roundg 1
              case measure => omega
              case rel => exact ⟨rfl, Lib.hid (.inr (.inl ⟨rfl, rfl, bool_eq (by simp [btw]; omega)⟩))⟩
            by_cases d1 : r.sb ≤ 32
            case neg =>
              go_wp2_with fail
              go_roundg 1
              case measure => omega
              case rel => exact ⟨rfl, Lib.hid (.inr (.inl ⟨rfl, rfl, bool_eq (by simp [btw]; omega)⟩))⟩
            go_wp2_with fail
            go_roundg 1
            case measure => omega
            case rel => exact ⟨rfl, Lib.hid (.inr (.inl ⟨rfl, rfl, bool_eq (by simp [btw, d0, d1])⟩))⟩
        · clear HC HO
          generalize (J && btw r.sb 0 32) = J2 at *
          cases J2 with
          | false =>
            go_wp2_with fail
            go_roundg 0
            case measure => omega
            case rel => exact ⟨rfl, Lib.hid (.inr (.inr ⟨rfl, rfl, rfl⟩))⟩
          | true =>
            by_cases d0 : 0 ≤ r.db
            case neg =>
              go_wp2_with fail
              go_roundg 0
              case measure => omega
              case rel => exact ⟨rfl, Lib.hid (.inr (.inr ⟨rfl, rfl, bool_eq (by simp [btw]; omega)⟩))⟩
            by_cases d1 : r.db ≤ 32
            case neg =>
              go_wp2_with fail
              go_roundg 0
              case measure => omega
              case rel => exact ⟨rfl, Lib.hid (.inr (.inr ⟨rfl, rfl, bool_eq (by simp [btw]; omega)⟩))⟩
            go_wp2_with fail
            go_roundg 0
            case measure => omega
            case rel => exact ⟨rfl, Lib.hid (.inr (.inr ⟨rfl, rfl, bool_eq (by simp [btw, d0, d1])⟩))⟩
        · obtain ⟨u8, u9, u10, u11, u12, u13⟩ := HU.out
          have HX : Hid (okR rs (i + 1) = (((J && btw r.sb 0 32) && btw r.db 0 32) && (btw r.pr 0 255 && (decide (0 ≤ r.lo) && (decide (r.lo ≤ r.hi) && (decide (r.hi ≤ 65535) && btw r.cl 0 15)))))) := Lib.hid (by rw [HO.out, HV.out]; simp [Bool.and_assoc])
          clear HC HO HV HU
          generalize ((J && btw r.sb 0 32) && btw r.db 0 32) = J3 at *
          cases J3 with
          | false =>
            go_wp2_with fail
            go_roundg k
            case measure => omega
            case rel => exact ⟨i + 1, by go_num, by omega, bool_eq (by rw [HX.out]; rfl), HB⟩
          | true =>
            by_cases c0 : 0 ≤ r.pr
            case neg =>
              go_wp2_with fail
              go_roundg k
              case measure => omega
              case rel => exact ⟨i + 1, by go_num, by omega, bool_eq (by rw [HX.out]; simp [btw]; omega), HB⟩
            by_cases c1 : r.pr ≤ 255
            case neg =>
              go_wp2_with fail
              go_roundg k
              case measure => omega
              case rel => exact ⟨i + 1, by go_num, by omega, bool_eq (by rw [HX.out]; simp [btw]; omega), HB⟩
            by_cases c2 : 0 ≤ r.cl
            case neg =>
              go_wp2_with fail
              go_roundg k
              case measure => omega
              case rel => exact ⟨i + 1, by go_num, by omega, bool_eq (by rw [HX.out]; simp [btw]; omega), HB⟩
            by_cases c3 : r.cl ≤ 15
            case neg =>
              go_wp2_with fail
              go_roundg k
              case measure => omega
              case rel => exact ⟨i + 1, by go_num, by omega, bool_eq (by rw [HX.out]; simp [btw]; omega), HB⟩
            by_cases c4 : 0 ≤ r.lo
            case neg =>
              go_wp2_with fail
              go_roundg k
              case measure => omega
              case rel => exact ⟨i + 1, by go_num, by omega, bool_eq (by rw [HX.out]; simp [btw]; omega), HB⟩
            by_cases c5 : r.lo ≤ r.hi
            case neg =>
              go_wp2_with fail
              go_roundg k
              case measure => omega
              case rel => exact ⟨i + 1, by go_num, by omega, bool_eq (by rw [HX.out]; simp [btw]; omega), HB⟩
            by_cases c6 : r.hi ≤ 65535
            case neg =>
              go_wp2_with fail
              go_roundg k
              case measure => omega
              case rel => exact ⟨i + 1, by go_num, by omega, bool_eq (by rw [HX.out]; simp [btw]; omega), HB⟩
            go_wp2_with fail
            go_roundg k
            case measure => omega
            case rel => exact ⟨i + 1, by go_num, by omega, bool_eq (by rw [HX.out]; simp [btw]; omega), HB⟩
end Go.Proofs.Ytandfbepenjbhaa
