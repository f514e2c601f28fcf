/- HeadTells of package weirhouselaw: its walk. -/
import Derived.Test.YtmigfemkbdehbaaHdE2
import Derived.Test.YtmigfemkbdehbaaHdE4
import Derived.Test.YtmigfemkbdehbaaHd6
import Derived.Laws.BytesArg
namespace Go.Proofs.Ytmigfemkbdehbaa
open Go.RowKit Go.Maps

/-- What string(v) is, in each world that keeps what lies below. -/
def StrAt (w : World) (v : Value) (s : ByteArray) : Prop := ∀ W, Below w.heap.size w W → (convert 25 9 v).run Try.prog W = .ok (.string s) W
theorem StrAt.below {w w' : World} {v : Value} {s : ByteArray} (h : StrAt w v s) (hb : Below w.heap.size w w') : StrAt w' v s := fun W hW => h W (hb.trans (hW.mono hb.size))
theorem strAt_nil (w : World) : StrAt w (.slice none 0 0) ByteArray.empty := fun W _ => run_convert_bytes_nil W 25 5 under_u8s Try.underlying5 0 0 9 Try.underlying9
theorem strAt_own {B : Nat} {w : World} {v : Value} {bs : List Int} (h : OwnB B w v bs) (hb : Bytes bs) (hl : bs.length ≤ 281474976710656) (h0 : 0 < bs.length) : StrAt w v (strOfNums bs) := fun W hW => by
  obtain ⟨A, cap, rfl, hL⟩ := h.form hb hl
  obtain ⟨b, off, rfl, hlt, hc⟩ := hL.at_ h0
  refine run_convert_bytes_arg W 25 5 under_u8s Try.underlying5 b off bs.length cap bs rfl (fun i hi => ?_) 9 Try.underlying9
  rw [hW.cell (p := ⟨b, off + i, none⟩) hlt, hc i bs[i] (List.getElem?_eq_getElem hi)]
  simp [List.getD, List.getElem?_eq_getElem hi]
def Hd.str (h : Hd) : ByteArray := if h.wrong = 0 then strOfNums h.packet else ByteArray.empty
theorem packet_pos {h : Hd} (hs : h.Sound) : 0 < h.packet.length ∧ h.packet.length ≤ 281474976710656 := by
  rw [hs.length]
  have := hs.ln
  omega
theorem write_str {h : Hd} (hf : h.Fine) (w : World) :
    Calls Try.prog 8 #[.agg h.cells.toArray] w fun e w' => ∃ v, e = .returned (.tuple #[v, .int .i64 h.wrong]) ∧ StrAt w' v h.str ∧ Below w.heap.size w w' := by
  unfold Hd.str
  by_cases hw : h.wrong = 0
  · have hs := hf.sound hw
    rw [if_pos hw, hw]
    refine (write_good h w hs hw).mono fun e w' ⟨g, he, ho, hb⟩ => ⟨_, he, strAt_own ho hs.bytes (packet_pos hs).2 (packet_pos hs).1, hb⟩
  · rw [if_neg hw]
    exact (write_bad h w hw).mono fun e w' ⟨he, hb⟩ => ⟨_, he, strAt_nil w', hb⟩
theorem eWrite_str {h : Hd} (hf : h.Fine) (w : World) :
    Calls Try.prog 9 #[.agg h.cells.toArray] w fun e w' => ∃ v, e = .returned (.tuple #[v, .int .i64 h.wrong]) ∧ StrAt w' v h.str ∧ Below w.heap.size w w' := by
  unfold Hd.str
  by_cases hw : h.wrong = 0
  · have hs := hf.sound hw
    rw [if_pos hw, hw]
    refine (eWrite_good h hf w hs hw).mono fun e w' ⟨v, he, ho, hb⟩ => ⟨v, he, strAt_own ho hs.bytes (packet_pos hs).2 (packet_pos hs).1, hb⟩
  · rw [if_neg hw]
    exact (eWrite_bad h hf w hw).mono fun e w' ⟨he, hb⟩ => ⟨_, he, strAt_nil w', hb⟩
theorem exec_load {o : Oper} {a : Act} {w : World} (x : Operand) (ho : o.op = .load 24 x) (g : Nat) (h : Hd) (hx : a.eval x = .pointer (some ⟨g, 0, none⟩)) (hg : HeadAt w g h) :
    (execOp a.eval o).run Try.prog w = .ok (.value (.agg h.cells.toArray)) w := by
  unfold execOp
  simp only [ho, hx, Instr.loadAt, Instr.sureAddr, Sem.run_bind, Sem.run_pure, Result.andThen_ok, run_loadVar_row w g 24 24 _ _ _ hg Try.underlying24 rfl info_head]
theorem exec_conv {o : Oper} {a : Act} {w : World} (x : Operand) (ho : o.op = .convert 25 9 x) (v : Value) (s : ByteArray) (hx : a.eval x = v) (hr : (convert 25 9 v).run Try.prog w = .ok (.string s) w) :
    (execOp a.eval o).run Try.prog w = .ok (.value (.string s)) w := by
  unfold execOp
  simp only [ho, hx, Sem.run_bind, hr, Sem.run_pure, Result.andThen_ok]
theorem exec_eql {o : Oper} {a : Act} {w : World} (x y : Operand) (T : TypeId) (ho : o.op = .binOp .eql T x y T) (u v : Value) (hx : a.eval x = u) (hy : a.eval y = v) (he : (eqGuard .eql T x y u v).run Try.prog w = .ok () w) (hr : (binOp .eql T u v).run Try.prog w = .ok (.bool true) w) :
    (execOp a.eval o).run Try.prog w = .ok (.value (.bool true)) w := by
  unfold execOp
  simp only [ho, hx, hy, Sem.run_bind, he, hr, Sem.run_pure, Result.andThen_ok]
theorem str_eql (w : World) (s : ByteArray) : (binOp .eql 9 (.string s) (.string s)).run Try.prog w = .ok (.bool true) w := by
  simp only [binOp, Op.stringOp]
  simp
theorem guard_head (w : World) (x y : Operand) (u v : Hd) : (eqGuard .eql 24 x y (.agg u.cells.toArray) (.agg v.cells.toArray)).run Try.prog w = .ok () w := run_eqGuard_agg w .eql 24 x y _ _ (by kernel_rfl)
theorem guard_str (w : World) (x y : Operand) (s t : ByteArray) : (eqGuard .eql 9 x y (.string s) (.string t)).run Try.prog w = .ok () w := by
  simp [eqGuard]

set_option maxRecDepth 100000 in
set_option maxHeartbeats 4000000 in
theorem tell_law {h : Hd} (hf : h.Fine) {w : World} {A : Option Addr} {bs : List Int} (hL : Lies w A bs) {cap : Nat} (hc : bs.length ≤ cap) :
    Calls Try.prog 3 #[.agg h.cells.toArray, .slice A bs.length cap] w fun e w' => e = .returned (.bool true) ∧ Below w.heap.size w w' := by
  have hq := headAt_new w h
  have hb0 : Below w.heap.size w (w.alloc (.cells h.cells.toArray 24)) := (Below.refl _ _).alloc (Nat.le_refl _) _
  have HX := Lib.hid (And.intro hq hb0)
  have H1 := Lib.hid (fun w => write_str hf w)
  have H2 := Lib.hid (fun w => eWrite_str hf w)
  have H3 := Lib.hid (fun W (hW : Below w.heap.size w W) => read_any (hL.below hW) hc)
  have H4 := Lib.hid (fun W (hW : Below w.heap.size w W) => eRead_any (hL.below hW) hc)
  have H5 := Lib.hid (fun w => wrong_any h w)
  have H6 := Lib.hid (fun w => eWrong_any h w hf.sp hf.dp)
  generalize h.wrong = R at *
  generalize h.str = s at *
  generalize unread bs = E at *
  generalize readHd bs = X at *
  generalize bs.length = n at *
  clear hq hb0 hL hf
  go_enter Try.func3, Try.ntmps3
  go_wp2_with (refine wpList_load_head rfl (.tmp 2) rfl w.heap.size h rfl HX.out.1 ?_)
  refine (H1.out _).mono ?_
  rintro e w1 ⟨v1, rfl, hs1, hb1⟩
  have HX1 := Lib.hid (And.intro (HX.out.1.below hb1 HX.out.1.lt) (And.intro hs1 (HX.out.2.trans (hb1.mono HX.out.2.size))))
  clear hs1 hb1 HX H1
  go_wp2_with (refine wpList_load_head rfl (.tmp 2) rfl w.heap.size h rfl HX1.out.1 ?_)
  refine (H2.out _).mono ?_
  rintro e w2 ⟨v2, rfl, hs2, hb2⟩
  have HX2 := Lib.hid (And.intro (HX1.out.1.below hb2 HX1.out.1.lt) (And.intro (HX1.out.2.1.below hb2) (And.intro hs2 (HX1.out.2.2.trans (hb2.mono HX1.out.2.2.size)))))
  clear hs2 hb2 HX1 H2
  go_wp2_with fail
  refine (H3.out _ HX2.out.2.2.2).mono ?_
  rintro e w3 ⟨rfl, hb3⟩
  have hz3 : HeadAt (w3.alloc (.cells #[.int .u8 0, .int .u8 0, .int .u8 0, .int .u8 0, .int .u8 0, .int .u8 0, .int .u8 0, .int .u8 0, .int .i64 0, .int .i64 0, .int .i64 0, .int .i64 0, .int .i64 0] 24)) w3.heap.size Hd.none := headAt_new w3 Hd.none
  have hb4 := hb3.trans ((below_setRow ((Below.refl w3.heap.size w3).alloc (Nat.le_refl _) (.cells #[.int .u8 0, .int .u8 0, .int .u8 0, .int .u8 0, .int .u8 0, .int .u8 0, .int .u8 0, .int .u8 0, .int .i64 0, .int .i64 0, .int .i64 0, .int .i64 0, .int .i64 0] 24)) (Nat.le_refl _) X.cells.toArray).mono hb3.size)
  have HZ3 := Lib.hid hz3
  have HX3 := Lib.hid (And.intro (hz3.stored X) (And.intro (HX2.out.1.below hb4 HX2.out.1.lt) (And.intro (HX2.out.2.1.below hb4) (And.intro (HX2.out.2.2.1.below hb4) (HX2.out.2.2.2.trans (hb4.mono HX2.out.2.2.2.size))))))
  clear hb3 hz3 hb4 HX2 H3
  go_upto_region 4 with (refine wpList_store_head rfl (.tmp 9) (.tmp 26) rfl w3.heap.size X Hd.none rfl rfl HZ3.out ?_)
  generalize (w3.alloc (.cells #[.int .u8 0, .int .u8 0, .int .u8 0, .int .u8 0, .int .u8 0, .int .u8 0, .int .u8 0, .int .u8 0, .int .i64 0, .int .i64 0, .int .i64 0, .int .i64 0, .int .i64 0] 24)).setRow w3.heap.size X.cells.toArray = W3 at *
  obtain ⟨r1, hr1⟩ : ∃ r1, r1 = w3.heap.size := ⟨_, rfl⟩
  rw [← hr1] at HX3 ⊢
  clear hr1 HZ3
  go_wp2_with fail
  refine (H4.out _ HX3.out.2.2.2.2).mono ?_
  rintro e w4 ⟨rfl, hb3⟩
  have hz3 : HeadAt (w4.alloc (.cells #[.int .u8 0, .int .u8 0, .int .u8 0, .int .u8 0, .int .u8 0, .int .u8 0, .int .u8 0, .int .u8 0, .int .i64 0, .int .i64 0, .int .i64 0, .int .i64 0, .int .i64 0] 24)) w4.heap.size Hd.none := headAt_new w4 Hd.none
  have hb4 := hb3.trans ((below_setRow ((Below.refl w4.heap.size w4).alloc (Nat.le_refl _) (.cells #[.int .u8 0, .int .u8 0, .int .u8 0, .int .u8 0, .int .u8 0, .int .u8 0, .int .u8 0, .int .u8 0, .int .i64 0, .int .i64 0, .int .i64 0, .int .i64 0, .int .i64 0] 24)) (Nat.le_refl _) X.cells.toArray).mono hb3.size)
  have HZ3 := Lib.hid hz3
  have HX4 := Lib.hid (And.intro (hz3.stored X) (And.intro (HX3.out.1.below hb4 HX3.out.1.lt) (And.intro (HX3.out.2.1.below hb4 HX3.out.2.1.lt) (And.intro (HX3.out.2.2.1.below hb4) (And.intro (HX3.out.2.2.2.1.below hb4) (HX3.out.2.2.2.2.trans (hb4.mono HX3.out.2.2.2.2.size)))))))
  clear hb3 hz3 hb4 HX3 H4
  go_upto_region 5 with (refine wpList_store_head rfl (.tmp 11) (.tmp 31) rfl w4.heap.size X Hd.none rfl rfl HZ3.out ?_)
  generalize (w4.alloc (.cells #[.int .u8 0, .int .u8 0, .int .u8 0, .int .u8 0, .int .u8 0, .int .u8 0, .int .u8 0, .int .u8 0, .int .i64 0, .int .i64 0, .int .i64 0, .int .i64 0, .int .i64 0] 24)).setRow w4.heap.size X.cells.toArray = W at *
  obtain ⟨r2, hr2⟩ : ∃ r2, r2 = w4.heap.size := ⟨_, rfl⟩
  rw [← hr2] at HX4 ⊢
  clear hr2 HZ3
  have HQ := Lib.hid HX4.out.2.2.1
  have HR1 := Lib.hid HX4.out.2.1
  have HR2 := Lib.hid HX4.out.1
  have HS1 := Lib.hid HX4.out.2.2.2.1
  have HS2 := Lib.hid HX4.out.2.2.2.2.1
  have HB := Lib.hid HX4.out.2.2.2.2.2
  clear HX4
  refine wp_region_held_drew (S := (fun V => Hid (Below W.heap.size W V))) (by kernel_rfl) (Lib.hid (Below.refl _ _).drew) (fun hHeld => ?_)
  refine wpAnyH_take (i := 0) (v := ?_) (by simp only [List.getElem?_toArray, List.getElem?_cons_zero] <;> rfl) (by kernel_rfl) (by kernel_rfl) (by kernel_rfl) (by exact fun _ _ _ h => h) (Or.inl ⟨by rfl, ?_⟩) hHeld ?_
  rotate_left
  · intro V hV; refine exec_load (.tmp 2) ?_ w.heap.size h ?_ (HQ.out.below hV.out HQ.out.lt) <;> rfl
  (try simp only [Act.put, List.setIfInBounds_toArray, List.set_cons_zero, List.set_cons_succ])
  refine wpAnyH_take (i := 2) (v := ?_) (by simp only [List.getElem?_toArray, List.getElem?_cons_succ, List.getElem?_cons_zero] <;> rfl) (by kernel_rfl) (by kernel_rfl) (by kernel_rfl) (by exact fun _ _ _ h => h) (Or.inl ⟨by rfl, ?_⟩) hHeld ?_
  rotate_left
  · intro V hV; refine exec_load (.tmp 2) ?_ w.heap.size h ?_ (HQ.out.below hV.out HQ.out.lt) <;> rfl
  (try simp only [Act.put, List.setIfInBounds_toArray, List.set_cons_zero, List.set_cons_succ])
  refine wpAnyH_ready (rs := [1]) (by kernel_rfl) (by simp) ?_
  refine AllReadyH.cons (by simp only [List.getElem?_toArray, List.getElem?_cons_succ, List.getElem?_cons_zero] <;> rfl) (fun K hK => ?_) AllReadyH.nil
  go_simp
  go_at_call 12
  refine (H5.out _).mono ?_
  rintro e V1 ⟨rfl, hbV⟩
  go_wp2_with fail
  have hHeld2 : Hid (Below W.heap.size W V1) := Lib.hid (hHeld.out.trans (hbV.mono hHeld.out.size))
  clear hHeld hbV
  refine hK.out _ _ hHeld2 (fun hHeld => ?_)
  clear hK K hHeld2
  (try simp only [Act.put, List.setIfInBounds_toArray, List.set_cons_zero, List.set_cons_succ])
  refine wpAnyH_ready (rs := [3]) (by kernel_rfl) (by simp) ?_
  refine AllReadyH.cons (by simp only [List.getElem?_toArray, List.getElem?_cons_succ, List.getElem?_cons_zero] <;> rfl) (fun K hK => ?_) AllReadyH.nil
  go_simp
  go_at_call 13
  refine (H6.out _).mono ?_
  rintro e V2 ⟨rfl, hbV⟩
  go_wp2_with fail
  have hHeld2 : Hid (Below W.heap.size W V2) := Lib.hid (hHeld.out.trans (hbV.mono hHeld.out.size))
  clear hHeld hbV
  refine hK.out _ _ hHeld2 (fun hHeld => ?_)
  clear hK K hHeld2
  (try simp only [Act.put, List.setIfInBounds_toArray, List.set_cons_zero, List.set_cons_succ])
  refine wpAnyH_take (i := 4) (v := ?_) (by simp only [List.getElem?_toArray, List.getElem?_cons_succ, List.getElem?_cons_zero] <;> rfl) (by kernel_rfl) (by kernel_rfl) (by kernel_rfl) (by exact fun _ _ _ h => h) (Or.inl ⟨by rfl, ?_⟩) hHeld ?_
  rotate_left
  · intro w hSw; (try dsimp only at hSw); go_simp; (try with_reducible rfl)
  (try simp only [Act.put, List.setIfInBounds_toArray, List.set_cons_zero, List.set_cons_succ])
  refine wpAnyH_take (i := 5) (v := ?_) (by simp only [List.getElem?_toArray, List.getElem?_cons_succ, List.getElem?_cons_zero] <;> rfl) (by kernel_rfl) (by kernel_rfl) (by kernel_rfl) (by exact fun _ _ _ h => h) (Or.inl ⟨by rfl, ?_⟩) hHeld ?_
  rotate_left
  · intro w hSw; (try dsimp only at hSw); go_simp; (try with_reducible rfl)
  (try simp only [Act.put, List.setIfInBounds_toArray, List.set_cons_zero, List.set_cons_succ])
  refine wpAnyH_take (i := 6) (v := ?_) (by simp only [List.getElem?_toArray, List.getElem?_cons_succ, List.getElem?_cons_zero] <;> rfl) (by kernel_rfl) (by kernel_rfl) (by kernel_rfl) (by exact fun _ _ _ h => h) (Or.inl ⟨by rfl, ?_⟩) hHeld ?_
  rotate_left
  · intro w hSw; (try dsimp only at hSw); go_simp; (try with_reducible rfl)
  (try simp only [Act.put, List.setIfInBounds_toArray, List.set_cons_zero, List.set_cons_succ])
  refine wpAnyH_take (i := 7) (v := ?_) (by simp only [List.getElem?_toArray, List.getElem?_cons_succ, List.getElem?_cons_zero] <;> rfl) (by kernel_rfl) (by kernel_rfl) (by kernel_rfl) (by exact fun _ _ _ h => h) (Or.inl ⟨by rfl, ?_⟩) hHeld ?_
  rotate_left
  · intro w hSw; (try dsimp only at hSw); go_simp; (try with_reducible rfl)
  (try simp only [Act.put, List.setIfInBounds_toArray, List.set_cons_zero, List.set_cons_succ])
  refine wpAnyH_take (i := 8) (v := ?_) (by simp only [List.getElem?_toArray, List.getElem?_cons_succ, List.getElem?_cons_zero] <;> rfl) (by kernel_rfl) (by kernel_rfl) (by kernel_rfl) (by exact fun _ _ _ h => h) (Or.inl ⟨by rfl, ?_⟩) hHeld ?_
  rotate_left
  · intro w hSw; (try dsimp only at hSw); go_simp; (try with_reducible rfl)
  (try simp only [Act.put, List.setIfInBounds_toArray, List.set_cons_zero, List.set_cons_succ])
  refine wpAnyH_take (i := 9) (v := ?_) (by simp only [List.getElem?_toArray, List.getElem?_cons_succ, List.getElem?_cons_zero] <;> rfl) (by kernel_rfl) (by kernel_rfl) (by kernel_rfl) (by exact fun _ _ _ h => h) (Or.inl ⟨by rfl, ?_⟩) hHeld ?_
  rotate_left
  · intro w hSw; (try dsimp only at hSw); go_simp; (try with_reducible rfl)
  (try simp only [Act.put, List.setIfInBounds_toArray, List.set_cons_zero, List.set_cons_succ])
  refine wpAnyH_take (i := 10) (v := ?_) (by simp only [List.getElem?_toArray, List.getElem?_cons_succ, List.getElem?_cons_zero] <;> rfl) (by kernel_rfl) (by kernel_rfl) (by kernel_rfl) (by exact fun _ _ _ h => h) (Or.inl ⟨by rfl, ?_⟩) hHeld ?_
  rotate_left
  · intro w hSw; (try dsimp only at hSw); go_simp; (try with_reducible rfl)
  (try simp only [Act.put, List.setIfInBounds_toArray, List.set_cons_zero, List.set_cons_succ])
  refine wpAnyH_take (i := 11) (v := ?_) (by simp only [List.getElem?_toArray, List.getElem?_cons_succ, List.getElem?_cons_zero] <;> rfl) (by kernel_rfl) (by kernel_rfl) (by kernel_rfl) (by exact fun _ _ _ h => h) (Or.inl ⟨by rfl, ?_⟩) hHeld ?_
  rotate_left
  · intro w hSw; (try dsimp only at hSw); go_simp; (try with_reducible rfl)
  (try simp only [Act.put, List.setIfInBounds_toArray, List.set_cons_zero, List.set_cons_succ])
  refine wpAnyH_take (i := 12) (v := ?_) (by simp only [List.getElem?_toArray, List.getElem?_cons_succ, List.getElem?_cons_zero] <;> rfl) (by kernel_rfl) (by kernel_rfl) (by kernel_rfl) (by exact fun _ _ _ h => h) (Or.inl ⟨by rfl, ?_⟩) hHeld ?_
  rotate_left
  · intro V hV; refine exec_conv (.tmp 44) ?_ v1 s ?_ (HS1.out V hV.out) <;> rfl
  (try simp only [Act.put, List.setIfInBounds_toArray, List.set_cons_zero, List.set_cons_succ])
  refine wpAnyH_take (i := 13) (v := ?_) (by simp only [List.getElem?_toArray, List.getElem?_cons_succ, List.getElem?_cons_zero] <;> rfl) (by kernel_rfl) (by kernel_rfl) (by kernel_rfl) (by exact fun _ _ _ h => h) (Or.inl ⟨by rfl, ?_⟩) hHeld ?_
  rotate_left
  · intro w hSw; (try dsimp only at hSw); go_simp; (try with_reducible rfl)
  (try simp only [Act.put, List.setIfInBounds_toArray, List.set_cons_zero, List.set_cons_succ])
  refine wpAnyH_take (i := 14) (v := ?_) (by simp only [List.getElem?_toArray, List.getElem?_cons_succ, List.getElem?_cons_zero] <;> rfl) (by kernel_rfl) (by kernel_rfl) (by kernel_rfl) (by exact fun _ _ _ h => h) (Or.inl ⟨by rfl, ?_⟩) hHeld ?_
  rotate_left
  · intro V hV; refine exec_conv (.tmp 46) ?_ v2 s ?_ (HS2.out V hV.out) <;> rfl
  (try simp only [Act.put, List.setIfInBounds_toArray, List.set_cons_zero, List.set_cons_succ])
  refine wpAnyH_take (i := 15) (v := ?_) (by simp only [List.getElem?_toArray, List.getElem?_cons_succ, List.getElem?_cons_zero] <;> rfl) (by kernel_rfl) (by kernel_rfl) (by kernel_rfl) (by exact fun _ _ _ h => h) (Or.inl ⟨by rfl, ?_⟩) hHeld ?_
  rotate_left
  · intro V hV; refine exec_eql (.tmp 45) (.tmp 47) 9 ?_ (.string s) (.string s) ?_ ?_ (guard_str V _ _ s s) (str_eql V s) <;> rfl
  (try simp only [Act.put, List.setIfInBounds_toArray, List.set_cons_zero, List.set_cons_succ])
  refine wpAnyH_take (i := 16) (v := ?_) (by simp only [List.getElem?_toArray, List.getElem?_cons_succ, List.getElem?_cons_zero] <;> rfl) (by kernel_rfl) (by kernel_rfl) (by kernel_rfl) (by exact fun _ _ _ h => h) (Or.inl ⟨by rfl, ?_⟩) hHeld ?_
  rotate_left
  · intro w hSw; (try dsimp only at hSw); go_simp; (try with_reducible rfl)
  (try simp only [Act.put, List.setIfInBounds_toArray, List.set_cons_zero, List.set_cons_succ])
  refine wpAnyH_take (i := 17) (v := ?_) (by simp only [List.getElem?_toArray, List.getElem?_cons_succ, List.getElem?_cons_zero] <;> rfl) (by kernel_rfl) (by kernel_rfl) (by kernel_rfl) (by exact fun _ _ _ h => h) (Or.inl ⟨by rfl, ?_⟩) hHeld ?_
  rotate_left
  · intro w hSw; (try dsimp only at hSw); go_simp; (try with_reducible rfl)
  (try simp only [Act.put, List.setIfInBounds_toArray, List.set_cons_zero, List.set_cons_succ])
  refine wpAnyH_take (i := 18) (v := ?_) (by simp only [List.getElem?_toArray, List.getElem?_cons_succ, List.getElem?_cons_zero] <;> rfl) (by kernel_rfl) (by kernel_rfl) (by kernel_rfl) (by exact fun _ _ _ h => h) (Or.inl ⟨by rfl, ?_⟩) hHeld ?_
  rotate_left
  · intro w hSw; (try dsimp only at hSw); go_simp; (try with_reducible rfl)
  (try simp only [Act.put, List.setIfInBounds_toArray, List.set_cons_zero, List.set_cons_succ])
  refine wpAnyH_take (i := 19) (v := ?_) (by simp only [List.getElem?_toArray, List.getElem?_cons_succ, List.getElem?_cons_zero] <;> rfl) (by kernel_rfl) (by kernel_rfl) (by kernel_rfl) (by exact fun _ _ _ h => h) (Or.inl ⟨by rfl, ?_⟩) hHeld ?_
  rotate_left
  · intro w hSw; (try dsimp only at hSw); go_simp; (try with_reducible rfl)
  (try simp only [Act.put, List.setIfInBounds_toArray, List.set_cons_zero, List.set_cons_succ])
  refine wpAnyH_take (i := 20) (v := ?_) (by simp only [List.getElem?_toArray, List.getElem?_cons_succ, List.getElem?_cons_zero] <;> rfl) (by kernel_rfl) (by kernel_rfl) (by kernel_rfl) (by exact fun _ _ _ h => h) (Or.inl ⟨by rfl, ?_⟩) hHeld ?_
  rotate_left
  · intro w hSw; (try dsimp only at hSw); go_simp; (try with_reducible rfl)
  (try simp only [Act.put, List.setIfInBounds_toArray, List.set_cons_zero, List.set_cons_succ])
  refine wpAnyH_take (i := 21) (v := ?_) (by simp only [List.getElem?_toArray, List.getElem?_cons_succ, List.getElem?_cons_zero] <;> rfl) (by kernel_rfl) (by kernel_rfl) (by kernel_rfl) (by exact fun _ _ _ h => h) (Or.inl ⟨by rfl, ?_⟩) hHeld ?_
  rotate_left
  · intro w hSw; (try dsimp only at hSw); go_simp; (try with_reducible rfl)
  (try simp only [Act.put, List.setIfInBounds_toArray, List.set_cons_zero, List.set_cons_succ])
  refine wpAnyH_take (i := 22) (v := ?_) (by simp only [List.getElem?_toArray, List.getElem?_cons_succ, List.getElem?_cons_zero] <;> rfl) (by kernel_rfl) (by kernel_rfl) (by kernel_rfl) (by exact fun _ _ _ h => h) (Or.inl ⟨by rfl, ?_⟩) hHeld ?_
  rotate_left
  · intro w hSw; (try dsimp only at hSw); go_simp; (try with_reducible rfl)
  (try simp only [Act.put, List.setIfInBounds_toArray, List.set_cons_zero, List.set_cons_succ])
  refine wpAnyH_take (i := 23) (v := ?_) (by simp only [List.getElem?_toArray, List.getElem?_cons_succ, List.getElem?_cons_zero] <;> rfl) (by kernel_rfl) (by kernel_rfl) (by kernel_rfl) (by exact fun _ _ _ h => h) (Or.inl ⟨by rfl, ?_⟩) hHeld ?_
  rotate_left
  · intro V hV; refine exec_load (.tmp 9) ?_ r1 X ?_ (HR1.out.below hV.out HR1.out.lt) <;> rfl
  (try simp only [Act.put, List.setIfInBounds_toArray, List.set_cons_zero, List.set_cons_succ])
  refine wpAnyH_take (i := 24) (v := ?_) (by simp only [List.getElem?_toArray, List.getElem?_cons_succ, List.getElem?_cons_zero] <;> rfl) (by kernel_rfl) (by kernel_rfl) (by kernel_rfl) (by exact fun _ _ _ h => h) (Or.inl ⟨by rfl, ?_⟩) hHeld ?_
  rotate_left
  · intro V hV; refine exec_load (.tmp 11) ?_ r2 X ?_ (HR2.out.below hV.out HR2.out.lt) <;> rfl
  (try simp only [Act.put, List.setIfInBounds_toArray, List.set_cons_zero, List.set_cons_succ])
  refine wpAnyH_take (i := 25) (v := ?_) (by simp only [List.getElem?_toArray, List.getElem?_cons_succ, List.getElem?_cons_zero] <;> rfl) (by kernel_rfl) (by kernel_rfl) (by kernel_rfl) (by exact fun _ _ _ h => h) (Or.inl ⟨by rfl, ?_⟩) hHeld ?_
  rotate_left
  · intro V hV; refine exec_eql (.tmp 56) (.tmp 57) 24 ?_ (.agg X.cells.toArray) (.agg X.cells.toArray) ?_ ?_ (guard_head V _ _ X X) (eql_head V X) <;> rfl
  (try simp only [Act.put, List.setIfInBounds_toArray, List.set_cons_zero, List.set_cons_succ])
  refine wpAnyH_take (i := 26) (v := ?_) (by simp only [List.getElem?_toArray, List.getElem?_cons_succ, List.getElem?_cons_zero] <;> rfl) (by kernel_rfl) (by kernel_rfl) (by kernel_rfl) (by exact fun _ _ _ h => h) (Or.inl ⟨by rfl, ?_⟩) hHeld ?_
  rotate_left
  · intro w hSw; (try dsimp only at hSw); go_simp; (try with_reducible rfl)
  (try simp only [Act.put, List.setIfInBounds_toArray, List.set_cons_zero, List.set_cons_succ])
  refine wpAnyH_ready (rs := [27]) (by kernel_rfl) (by simp) ?_
  refine AllReadyH.cons (by simp only [List.getElem?_toArray, List.getElem?_cons_succ, List.getElem?_cons_zero] <;> rfl) (fun K hK => ?_) AllReadyH.nil
  go_simp
  refine hK.out _ _ hHeld (fun hHeld => ?_)
  clear hK K
  (try simp only [Act.put, List.setIfInBounds_toArray, List.set_cons_zero, List.set_cons_succ])
  refine wpAnyH_done (by kernel_rfl) ?_ _
  go_wp2
  go_ret
  exact ⟨rfl, HB.out.trans (hHeld.out.mono HB.out.size)⟩
end Go.Proofs.Ytmigfemkbdehbaa
