/- Two equal headers are equal; the check 'alive' of package head's laws returns true. -/
import Derived.Test.YtmigfemkbdehbaaHd5
import Derived.Laws.StructEq
namespace Go.Proofs.Ytmigfemkbdehbaa
open Go.RowKit Go.Maps

theorem size_u8' (w : World) : (sizeOf 5).run Try.prog w = .ok 1 w := by
  obtain ⟨i0, hi, hz0, hz1, hz2⟩ := info_parts info_u8
  simp [sizeOf, typeInfo, hi, hz1]
theorem arr_equal (w : World) (d : Nat) (a b c e : Int) : (Op.equalIn (d + 2) 22 (.agg #[.int .u8 a, .int .u8 b, .int .u8 c, .int .u8 e]) (.agg #[.int .u8 a, .int .u8 b, .int .u8 c, .int .u8 e])).run Try.prog w = .ok true w := by
  rw [Op.equalIn]
  have he : ∀ x : Int, (Op.equalIn (d + 1) 5 (.int .u8 x) (.int .u8 x)).run Try.prog w = .ok true w := fun x => by
    rw [run_equalIn_int w d 5 .u8 .u8 _ _ Try.underlying5]
    simp
  simp only [Sem.run_bind, run_underlying Try.underlying22, Result.andThen_ok, size_u8', Std.Legacy.Range.forIn_eq_forIn_range', Std.Legacy.Range.size, Nat.sub_zero, Nat.add_sub_cancel, Nat.div_one]
  simp [List.range', part, isAgg, run_underlying Try.underlying5, he]
theorem part_arr (w : World) (xs : Array Value) (off : Nat) : (part 22 xs off).run Try.prog w = .ok (.agg (xs.extract off (off + 4))) w := by
  have hi : ∃ i, Try.prog.info? 22 = some i ∧ i.size = 4 := by
    have h : (Try.prog.info? 22).map (·.size) = some 4 := by kernel_rfl
    obtain ⟨i, h1, h2⟩ := Option.map_eq_some_iff.1 h
    exact ⟨i, h1, h2⟩
  obtain ⟨i, hi, hs⟩ := hi
  simp [part, isAgg, run_underlying Try.underlying22, sizeOf, typeInfo, hi, hs]
theorem part_int (w : World) (xs : Array Value) (off : Nat) (v : Value) (h : xs[off]? = some v) : (part 3 xs off).run Try.prog w = .ok v w := by
  simp [part, isAgg, run_underlying Try.underlying3, h]
theorem int_equal (w : World) (d : Nat) (x : Int) : (Op.equalIn (d + 1) 3 (.int .i64 x) (.int .i64 x)).run Try.prog w = .ok true w := by
  rw [run_equalIn_int w d 3 .i64 .i64 _ _ Try.underlying3]
  simp
set_option maxRecDepth 100000 in
theorem head_equal (w : World) (h : Hd) : (Op.equalIn 10000 24 (.agg h.cells.toArray) (.agg h.cells.toArray)).run Try.prog w = .ok true w := by
  have hf : ∃ f0 f1 f2 f3 f4 f5 f6, Try.prog.fieldsOf 24 = #[f0, f1, f2, f3, f4, f5, f6] ∧ Try.prog.underlying 24 = some (.struct #[f0, f1, f2, f3, f4, f5, f6]) ∧
      (f0.type, f0.offset) = (22, 0) ∧ (f1.type, f1.offset) = (22, 4) ∧ (f2.type, f2.offset) = (3, 8) ∧ (f3.type, f3.offset) = (3, 9) ∧ (f4.type, f4.offset) = (3, 10) ∧ (f5.type, f5.offset) = (3, 11) ∧ (f6.type, f6.offset) = (3, 12) :=
    ⟨_, _, _, _, _, _, _, by rw [Program.fieldsOf, Try.underlying24], Try.underlying24, rfl, rfl, rfl, rfl, rfl, rfl, rfl⟩
  obtain ⟨f0, f1, f2, f3, f4, f5, f6, e, hu, e0, e1, e2, e3, e4, e5, e6⟩ := hf
  rw [show (10000 : Nat) = 9999 + 1 from rfl, run_equalIn_struct w 9999 24 _ _ (by rw [e]; exact hu) (by kernel_rfl), e]
  simp only [Prod.mk.injEq] at e0 e1 e2 e3 e4 e5 e6
  have ha := fun (a b c d : Int) => arr_equal w 9997 a b c d
  have hi := fun (x : Int) => int_equal w 9998 x
  have q8 := part_int w h.cells.toArray 8 (.int .i64 h.pr) rfl
  have q9 := part_int w h.cells.toArray 9 (.int .i64 h.sp) rfl
  have q10 := part_int w h.cells.toArray 10 (.int .i64 h.dp) rfl
  have q11 := part_int w h.cells.toArray 11 (.int .i64 h.ln) rfl
  have q12 := part_int w h.cells.toArray 12 (.int .i64 h.ma) rfl
  have q0 : (part 22 h.cells.toArray 0).run Try.prog w = .ok (.agg #[.int .u8 h.s0, .int .u8 h.s1, .int .u8 h.s2, .int .u8 h.s3]) w := by rw [part_arr]; rfl
  have q4 : (part 22 h.cells.toArray 4).run Try.prog w = .ok (.agg #[.int .u8 h.d0, .int .u8 h.d1, .int .u8 h.d2, .int .u8 h.d3]) w := by rw [part_arr]; rfl
  simp only [Nat.reduceAdd] at ha hi
  simp only [Op.eqFields, e0.1, e0.2, e1.1, e1.2, e2.1, e2.2, e3.1, e3.2, e4.1, e4.2, e5.1, e5.2, e6.1, e6.2]
  repeat' split
  all_goals simp [q0, q4, q8, q9, q10, q11, q12, ha, hi]
theorem eql_head (w : World) (h : Hd) : (binOp .eql 24 (.agg h.cells.toArray) (.agg h.cells.toArray)).run Try.prog w = .ok (.bool true) w := by
  rw [run_eql_struct, head_equal]
  rfl
theorem neq_head (w : World) (h : Hd) : (binOp .neq 24 (.agg h.cells.toArray) (.agg h.cells.toArray)).run Try.prog w = .ok (.bool false) w := by
  rw [run_neq_struct, head_equal]
  rfl

theorem OwnB.lies {B g n cap : Nat} {w : World} {bs : List Int} (h : OwnB B w (.slice (some ⟨g, 0, none⟩) n cap) bs) (hb : Bytes bs) (hl : bs.length ≤ 281474976710656) : Lies w (some ⟨g, 0, none⟩) bs ∧ bs.length ≤ cap ∧ bs.length = n := by
  obtain ⟨A, c, e, hL⟩ := h.form hb hl
  injection e with e1 e2 e3
  subst e1 e3
  refine ⟨hL, ?_, e2.symm⟩
  rcases h.2 with ⟨e, _⟩ | ⟨g', c', cur, e, hB, hg, hnc, _⟩
  · cases e
  · injection e with _ _ e3
    subst e3
    exact hnc
/-- What was written is read, in any world that keeps it. -/
theorem read_back {h : Hd} (hs : h.Sound) {B g : Nat} {w : World} (ho : OwnB B w (.slice (some ⟨g, 0, none⟩) h.ln.toNat h.ln.toNat) h.packet) :
    Calls Try.prog 10 #[.slice (some ⟨g, 0, none⟩) h.ln.toNat h.ln.toNat] w fun e w' => e = .returned (.tuple #[.agg h.cells.toArray, .int .i64 0]) ∧ Below w.heap.size w w' := by
  obtain ⟨h1, h2, h3⟩ := ho.lies hs.bytes (by rw [hs.length]; have := hs.ln; omega)
  have := read_any h1 h2
  rw [h3, hs.read0.1, hs.read0.2] at this
  exact this

def A5 : Hd := ⟨10, 0, 0, 1, 0, 0, 0, 0, 17, 0, 53, 30, 5⟩
theorem A5_sound : A5.Sound := by
  constructor <;> simp [A5, Byte, Half, ported]
set_option maxRecDepth 100000 in
set_option maxHeartbeats 1000000 in
theorem alive5_any (w : World) : Calls Try.prog 14 #[] w fun e w' => e = .returned (.bool true) ∧ Below w.heap.size w w' := by
  have H1 : Hid (∀ w, Calls Try.prog 8 #[.agg #[.int .u8 10, .int .u8 0, .int .u8 0, .int .u8 1, .int .u8 0, .int .u8 0, .int .u8 0, .int .u8 0, .int .i64 17, .int .i64 0, .int .i64 53, .int .i64 30, .int .i64 5]] w fun e w' => ∃ g, e = .returned (.tuple #[.slice (some ⟨g, 0, none⟩) 30 30, .int .i64 0]) ∧ OwnB w.heap.size w' (.slice (some ⟨g, 0, none⟩) 30 30) A5.packet ∧ Below w.heap.size w w') := Lib.hid (fun w => write_good A5 w A5_sound (by rfl))
  go_enter Try.func14, Try.ntmps14
  go_wp2_with fail
  refine (H1.out _).mono ?_
  rintro e w1 ⟨g, rfl, ho, hb⟩
  have H2 : Hid (Calls Try.prog 10 #[.slice (some ⟨g, 0, none⟩) 30 30] w1 fun e w' => e = .returned (.tuple #[.agg A5.cells.toArray, .int .i64 0]) ∧ Below w1.heap.size w1 w') := Lib.hid (read_back A5_sound ho)
  have HO := Lib.hid (And.intro ho hb)
  clear ho hb H1
  go_wp2_with fail
  refine H2.out.mono ?_
  rintro e w2 ⟨rfl, hb2⟩
  have hq : HeadAt (w2.alloc (.cells #[.int .u8 0, .int .u8 0, .int .u8 0, .int .u8 0, .int .u8 0, .int .u8 0, .int .u8 0, .int .u8 0, .int .i64 0, .int .i64 0, .int .i64 0, .int .i64 0, .int .i64 0] 24)) w2.heap.size Hd.none := headAt_new w2 Hd.none
  have hb3 : Below w2.heap.size w2 ((w2.alloc (.cells #[.int .u8 0, .int .u8 0, .int .u8 0, .int .u8 0, .int .u8 0, .int .u8 0, .int .u8 0, .int .u8 0, .int .i64 0, .int .i64 0, .int .i64 0, .int .i64 0, .int .i64 0] 24)).setRow w2.heap.size A5.cells.toArray) := below_setRow ((Below.refl _ _).alloc (Nat.le_refl _) _) (Nat.le_refl _) _
  have hq2 := hq.stored A5
  have hbb : Below w1.heap.size w1 ((w2.alloc (.cells #[.int .u8 0, .int .u8 0, .int .u8 0, .int .u8 0, .int .u8 0, .int .u8 0, .int .u8 0, .int .u8 0, .int .i64 0, .int .i64 0, .int .i64 0, .int .i64 0, .int .i64 0] 24)).setRow w2.heap.size A5.cells.toArray) := hb2.trans (hb3.mono hb2.size)
  have ho2 := HO.out.1.below hbb
  have hbz := HO.out.2.trans (hbb.mono HO.out.2.size)
  have HQ := Lib.hid hq
  have HZ := Lib.hid (And.intro hq2 (And.intro ho2 hbz))
  clear hb2 hq hb3 hq2 hbb ho2 hbz H2 HO
  go_upto_region 3 with (refine wpList_store_head rfl (.tmp 3) (.tmp 14) rfl w2.heap.size A5 Hd.none rfl rfl HQ.out ?_)
  generalize (w2.alloc (.cells #[.int .u8 0, .int .u8 0, .int .u8 0, .int .u8 0, .int .u8 0, .int .u8 0, .int .u8 0, .int .u8 0, .int .i64 0, .int .i64 0, .int .i64 0, .int .i64 0, .int .i64 0] 24)).setRow w2.heap.size A5.cells.toArray = W at *
  obtain ⟨y1, c1, -, g1⟩ := HZ.out.2.1.cell (i := 1) (by rw [A5_sound.length]; decide)
  obtain ⟨y23, c23, -, g23⟩ := HZ.out.2.1.cell (i := 23) (by rw [A5_sound.length]; decide)
  obtain rfl : 20 = y1 := Option.some.inj ((show A5.packet[1]? = some 20 from rfl).symm.trans g1)
  obtain rfl : 53 = y23 := Option.some.inj ((show A5.packet[23]? = some 53 from rfl).symm.trans g23)
  have f10 : W.cell? ⟨w2.heap.size, 10, none⟩ = some (.int .i64 53) := HZ.out.1.cell 10
  have f12 : W.cell? ⟨w2.heap.size, 12, none⟩ = some (.int .i64 5) := HZ.out.1.cell 12
  have f0 : W.cell? ⟨w2.heap.size, 0, none⟩ = some (.int .u8 10) := HZ.out.1.cell 0
  clear g1 g23 HQ
  go_wp2_with fail
  go_ret
  exact ⟨rfl, HZ.out.2.2⟩
end Go.Proofs.Ytmigfemkbdehbaa
