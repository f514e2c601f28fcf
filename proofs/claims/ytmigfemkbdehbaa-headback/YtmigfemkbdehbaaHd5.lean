/- head.Write. -/
import Derived.Test.YtmigfemkbdehbaaHd4
import Derived.Lib.SlBuf
namespace Go.Proofs.Ytmigfemkbdehbaa
open Go.RowKit Go.Maps

theorem own_zeros {B : Nat} (w : World) {n : Nat} (hB : B ≤ w.heap.size) (hn : n ≤ 65536) : OwnB B (w.alloc (.cells (madeCells #[.int .u8 0] n) 5)) (.slice (some ⟨w.heap.size, 0, none⟩) n n) (List.replicate n 0) := by
  unfold OwnB
  rw [List.length_replicate]
  refine ⟨by simp [u8s], .inr ⟨w.heap.size, n, _, rfl, hB, heap_alloc_new w _, Nat.le_refl _, by simp only [maxLen]; omega, by rw [size_madeCells]; omega, ?_⟩⟩
  rw [Nat.mul_one, toList_madeCells_one, List.take_of_length_le (by simp)]
  simp [u8s]
theorem size_u8 : (Try.prog.info? 5).map (·.size) = some 1 := by kernel_rfl
theorem splice_over {α : Type} {L D cs : List α} {off n : Nat} (hL : L.length = n) (hf : off + cs.length ≤ n) : (((L ++ D).take off ++ cs ++ (L ++ D).drop (off + cs.length)).take n) = splice L off cs := by
  have e1 : (L ++ D).take off = L.take off := List.take_append_of_le_length (by omega)
  have e2 : (L ++ D).drop (off + cs.length) = L.drop (off + cs.length) ++ D := List.drop_append_of_le_length (by omega)
  rw [e1, e2, ← List.append_assoc, List.take_left' (by simp only [List.length_append, List.length_take, List.length_drop]; omega)]
  unfold splice
  rw [List.append_assoc]
/-- A copy of bytes into a row of the call's own. -/
theorem own_copy {B : Nat} {w : World} {g n cap : Nat} {bs : List Int} (h : OwnB B w (.slice (some ⟨g, 0, none⟩) n cap) bs) (hn : bs.length = n) {a : Addr} {xs : List Int} (hs : Lies w (some a) xs) (off c c2 : Nat) (hfit : off + xs.length ≤ n) :
    ∃ W, (∀ ty, (Builtin.copy_ #[25, 25] ty #[.slice (some ⟨g, off, none⟩) xs.length c, .slice (some a) xs.length c2]).run Try.prog w = .ok (goInt xs.length) W) ∧ OwnB B W (.slice (some ⟨g, 0, none⟩) n cap) (splice bs off xs) ∧ Below B w W := by
  subst hn
  rcases h.2 with ⟨e, _⟩ | ⟨g', c', cur, e, hB, hg, hnc, hcm, hcs, ht⟩
  · cases e
  · injection e with e1 _ e3
    injection e1 with e1
    injection e1 with e1
    subst e1 e3
    have hl : (u8s xs).length = xs.length := u8s_length xs
    have hr := fun ty => run_copy_row (P := Try.prog) w 25 25 ty 5 g off xs.length c a xs.length c2 cur 5 (u8s xs) under_u8s size_u8 hg (by rw [hl]; simp) (lies_news hs) (by rw [hl, hcs]; omega) (u8s_one xs)
    rw [hl] at hr
    have hsl : (splice bs off xs).length = bs.length := length_splice bs off xs (by omega)
    refine ⟨_, hr, ?_, ⟨rfl, rfl, rfl, by simp [World.setRow], fun k hk => setRow_other w g k _ (by omega)⟩⟩
    unfold OwnB
    rw [hsl]
    refine ⟨by rw [u8s_length, hsl, Nat.mul_one], .inr ⟨g, cap, _, rfl, hB, setRow_heap w g cur _ _ _ hg, hnc, hcm, ?_, ?_⟩⟩
    · simp only [List.size_toArray, List.length_append, List.length_take, List.length_drop, Array.length_toList, hl]
      omega
    · have hcur : cur.toList = u8s bs ++ cur.toList.drop (bs.length * 1) := by rw [← ht, List.take_append_drop]
      rw [hcur, ← hl, splice_over (by rw [u8s_length, Nat.mul_one]) (by rw [hl]; omega)]
      simp [splice, u8s]
theorem HeadAt.src {w : World} {q : Nat} {h : Hd} (hq : HeadAt w q h) (hf : h.Sound) : Lies w (some ⟨q, 0, none⟩) [h.s0, h.s1, h.s2, h.s3] := by
  refine ⟨fun _ => ⟨q, 0, rfl, hq.lt, fun j x hx => ?_⟩, bytes_cons hf.s0 (bytes_cons hf.s1 (bytes_cons hf.s2 (bytes_cons hf.s3 bytes_nil))), by simp⟩
  rw [hq.cell]
  rcases j with _ | _ | _ | _ | j <;> simp at hx <;> (subst hx; rfl)
theorem HeadAt.dst {w : World} {q : Nat} {h : Hd} (hq : HeadAt w q h) (hf : h.Sound) : Lies w (some ⟨q, 4, none⟩) [h.d0, h.d1, h.d2, h.d3] := by
  refine ⟨fun _ => ⟨q, 4, rfl, hq.lt, fun j x hx => ?_⟩, bytes_cons hf.d0 (bytes_cons hf.d1 (bytes_cons hf.d2 (bytes_cons hf.d3 bytes_nil))), by simp⟩
  rw [hq.cell]
  rcases j with _ | _ | _ | _ | j <;> simp at hx <;> (subst hx; rfl)

set_option maxRecDepth 100000 in
set_option maxHeartbeats 2000000 in
theorem write_bad (h : Hd) (w : World) (hw : h.wrong ≠ 0) :
    Calls Try.prog 8 #[.agg h.cells.toArray] w fun e w' => e = .returned (.tuple #[.slice none 0 0, .int .i64 h.wrong]) ∧ Below w.heap.size w w' := by
  have HQ := Lib.hid (headAt_new w h)
  have ha : Below w.heap.size w (w.alloc (.cells h.cells.toArray 24)) := (Below.refl _ _).alloc (Nat.le_refl _) _
  have H1 := Lib.hid (wrong_any h (w.alloc (.cells h.cells.toArray 24)))
  have HB := Lib.hid ha
  generalize h.wrong = R at *
  have hr' : (R != 0) = true := by simpa using hw
  clear ha hw
  go_enter Try.func8, Try.ntmps8
  go_wp2_with (refine wpList_load_head rfl (.tmp 1) rfl w.heap.size h rfl HQ.out ?_)
  refine H1.out.mono ?_
  rintro e w1 ⟨rfl, hb⟩
  have hb1 := HB.out.trans (hb.mono HB.out.size)
  have HB1 := Lib.hid hb1
  clear hb hb1
  go_wp2_with fail
  go_ret2
  exact ⟨rfl, HB1.out⟩

theorem zeros20 {n : Nat} (h : 20 ≤ n) : List.replicate n (0 : Int) = 0 :: 0 :: 0 :: 0 :: 0 :: 0 :: 0 :: 0 :: 0 :: 0 :: 0 :: 0 :: 0 :: 0 :: 0 :: 0 :: 0 :: 0 :: 0 :: 0 :: List.replicate (n - 20) 0 := by
  obtain ⟨r, rfl⟩ := Nat.exists_eq_add_of_le' h
  rw [Nat.add_sub_cancel]
  rfl
theorem zeros4 {n : Nat} (h : 24 ≤ n) : List.replicate (n - 20) (0 : Int) = 0 :: 0 :: 0 :: 0 :: List.replicate (n - 24) 0 := by
  obtain ⟨r, rfl⟩ := Nat.exists_eq_add_of_le' h
  rw [Nat.add_sub_cancel, show r + 24 - 20 = r + 4 by omega]
  rfl
theorem own_lower {B B' : Nat} {w : World} {v : Value} {bs : List Int} (h : OwnB B w v bs) (hB : B' ≤ B) : OwnB B' w v bs := by
  refine ⟨h.1, ?_⟩
  rcases h.2 with hn | ⟨g, cap, cur, rfl, hb, rest⟩
  · exact .inl hn
  · exact .inr ⟨g, cap, cur, rfl, Nat.le_trans hB hb, rest⟩
/-- What Write has at hand: its header's block, its row of bytes, the old world below. -/
structure WAt (w : World) (q g n : Nat) (h : Hd) (W : World) (bs : List Int) : Prop where
  head : HeadAt W q h
  own : OwnB (q + 1) W (.slice (some ⟨g, 0, none⟩) n n) bs
  len : bs.length = n
  below : Below q w W
  le : q + 1 ≤ g
theorem WAt.c {w W : World} {q g n : Nat} {h : Hd} {bs : List Int} (hW : WAt w q g n h W bs) : W.cell? ⟨q, 8, none⟩ = some (.int .i64 h.pr) ∧ W.cell? ⟨q, 9, none⟩ = some (.int .i64 h.sp) ∧ W.cell? ⟨q, 10, none⟩ = some (.int .i64 h.dp) ∧ W.cell? ⟨q, 11, none⟩ = some (.int .i64 h.ln) ∧ W.cell? ⟨q, 12, none⟩ = some (.int .i64 h.ma) :=
  ⟨hW.head.cell 8, hW.head.cell 9, hW.head.cell 10, hW.head.cell 11, hW.head.cell 12⟩
theorem WAt.turn {w W W' : World} {q g n : Nat} {h : Hd} {bs bs' : List Int} (hW : WAt w q g n h W bs) (ho : OwnB (q + 1) W' (.slice (some ⟨g, 0, none⟩) n n) bs') (hl : bs'.length = n) (hb : Below (q + 1) W W') : WAt w q g n h W' bs' :=
  ⟨hW.head.below hb (Nat.lt_succ_self _), ho, hl, hW.below.trans (hb.mono (Nat.le_succ _)), hW.le⟩
theorem WAt.store {w W : World} {q g n : Nat} {h : Hd} {bs : List Int} (hW : WAt w q g n h W bs) (i : Nat) (y : Int) : WAt w q g n h (W.setCell ⟨g, i, none⟩ (.int .u8 y)) (bs.set i y) := by
  have h1 := hW.own
  rw [← hW.len] at h1
  have h2 := h1.stored i y
  rw [hW.len] at h2
  exact hW.turn h2 (by rw [List.length_set]; exact hW.len) ((Below.refl _ _).setCell (p := ⟨g, i, none⟩) hW.le _)
theorem WAt.cell {w W : World} {q g n : Nat} {h : Hd} {bs : List Int} (hW : WAt w q g n h W bs) {i : Nat} (hi : i < n) : ∃ y, W.cell? ⟨g, i, none⟩ = some (.int .u8 y) ∧ W.frozen? ⟨g, i, none⟩ = false := by
  obtain ⟨y, h1, h2, _⟩ := hW.own.cell (i := i) (by rw [hW.len]; exact hi)
  exact ⟨y, h1, h2⟩
theorem WAt.put {w W : World} {q g n : Nat} {h : Hd} {bs : List Int} (hW : WAt w q g n h W bs) {i : Nat} (hi : i + 1 < n) (hn : n ≤ 65536) {x : Int} (hx : Half x) :
    Calls Try.prog 15 #[.slice (some ⟨g, 0, none⟩) n n, .int .i64 (i : Int), .int .i64 x] W fun e w' => e = .returned (.tuple #[]) ∧ WAt w q g n h w' (putw bs i x) :=
  (putWord_any hW.own hW.len hi (by omega) hx hW.le).mono fun e w' ⟨he, ho, hb⟩ => ⟨he, hW.turn ho (by rw [putw_length]; exact hW.len) hb⟩
theorem WAt.copy {w W : World} {q g n : Nat} {h : Hd} {bs : List Int} (hW : WAt w q g n h W bs) {a : Addr} {xs : List Int} (hs : Lies W (some a) xs) (off c c2 : Nat) (hfit : off + xs.length ≤ n) :
    ∃ W', (∀ ty, (Builtin.copy_ #[25, 25] ty #[.slice (some ⟨g, off, none⟩) xs.length c, .slice (some a) xs.length c2]).run Try.prog W = .ok (goInt xs.length) W') ∧ WAt w q g n h W' (splice bs off xs) := by
  obtain ⟨W', h1, h2, h3⟩ := own_copy hW.own hW.len hs off c c2 hfit
  exact ⟨W', h1, hW.turn h2 (by rw [length_splice bs off xs (by rw [hW.len]; exact hfit)]; exact hW.len) h3⟩
theorem WAt.drew {w W : World} {q g n : Nat} {h : Hd} {bs : List Int} (hW : WAt w q g n h W bs) : WAt w q g n h W.drew bs := ⟨hW.head, hW.own.below (Below.refl _ _).drew, hW.len, hW.below.drew, hW.le⟩
theorem WAt.lies {w W : World} {q g n : Nat} {h : Hd} {bs : List Int} (hW : WAt w q g n h W bs) (hb : Bytes bs) (hn : n ≤ 65536) : Lies W (some ⟨g, 0, none⟩) bs := by
  obtain ⟨A, cap, e, hL⟩ := hW.own.form hb (by rw [hW.len]; omega)
  injection e with e1
  subst e1
  exact hL

set_option maxRecDepth 100000 in
set_option maxHeartbeats 2000000 in
theorem write_good (h : Hd) (w : World) (hs : h.Sound) (hw : h.wrong = 0) :
    Calls Try.prog 8 #[.agg h.cells.toArray] w fun e w' => ∃ g, e = .returned (.tuple #[.slice (some ⟨g, 0, none⟩) h.ln.toNat h.ln.toNat, .int .i64 0]) ∧ OwnB w.heap.size w' (.slice (some ⟨g, 0, none⟩) h.ln.toNat h.ln.toNat) h.packet ∧ Below w.heap.size w w' := by
  have HQ := Lib.hid (headAt_new w h)
  have ha : Below w.heap.size w (w.alloc (.cells h.cells.toArray 24)) := (Below.refl _ _).alloc (Nat.le_refl _) _
  have H1 := wrong_any h (w.alloc (.cells h.cells.toArray 24))
  rw [hw] at H1
  have H1' := Lib.hid H1
  have HB := Lib.hid ha
  obtain ⟨n, hn⟩ := Int.eq_ofNat_of_zero_le (show 0 ≤ h.ln by have := hs.ln.1; omega)
  have hnn : 20 ≤ n ∧ n < 65536 := by have := hs.ln; omega
  have hmk := fun w => run_make_row' (P := Try.prog) 25 5 (.int .u8 0) 1 under_u8s info_u8 rfl .i64 .i64 n (by omega) (by omega) w
  rw [show h.ln.toNat = n by omega]
  have HP : Hid (h.packet = h.first h.check ++ h.rest) := Lib.hid rfl
  obtain ⟨m0, m1⟩ := hs.ma
  have HS := Lib.hid hs
  have e1 : IntKind.u8.wrap (h.ma * 4) = 4 * h.ma := by rw [IntKind.wrap_u8]; omega
  have HN := Lib.hid hn
  clear ha H1 hw hn
  go_enter Try.func8, Try.ntmps8
  go_wp2_with (refine wpList_load_head rfl (.tmp 1) rfl w.heap.size h rfl HQ.out ?_)
  refine H1'.out.mono ?_
  rintro e w1 ⟨rfl, hb⟩
  have hb1 := HB.out.trans (hb.mono HB.out.size)
  have hsz : (w.alloc (.cells h.cells.toArray 24)).heap.size = w.heap.size + 1 := by simp
  rw [hsz] at hb
  have hq1 := HQ.out.below hb (Nat.lt_succ_self _)
  have hz := own_zeros (B := w.heap.size + 1) w1 (n := n) (by have := hb.size; rw [hsz] at this; exact this) (by omega)
  have hwa : WAt w w.heap.size w1.heap.size n h (w1.alloc (.cells (madeCells #[.int .u8 0] n) 5)) (List.replicate n 0) :=
    ⟨hq1.below ((Below.refl w1.heap.size w1).alloc (Nat.le_refl _) _) hq1.lt, hz, by simp, hb1.alloc hb1.size _, by have := hb.size; rw [hsz] at this; exact this⟩
  have c11 := hq1.cell 11
  have c11' : w1.cell? ⟨w.heap.size, 11, none⟩ = some (.int .i64 (n : Int)) := by rw [← HN.out]; exact c11
  have HW := Lib.hid hwa
  clear hb hb1 hq1 hz hwa hsz H1' HB HQ c11
  go_upto_region 5 with fail
  obtain ⟨R, hR⟩ : ∃ R, R = List.replicate (n - 20) (0 : Int) := ⟨_, rfl⟩
  have hz20 : List.replicate n (0 : Int) = 0 :: 0 :: 0 :: 0 :: 0 :: 0 :: 0 :: 0 :: 0 :: 0 :: 0 :: 0 :: 0 :: 0 :: 0 :: 0 :: 0 :: 0 :: 0 :: 0 :: R := hR ▸ zeros20 (by omega)
  have HR := Lib.hid hR
  rw [hz20] at HW
  clear hR hz20 hmk c11'
  obtain ⟨W2, hW2⟩ : ∃ W2, W2 = w1.alloc (.cells (madeCells #[.int .u8 0] n) 5) := ⟨_, rfl⟩
  rw [← hW2] at HW ⊢
  clear hW2
  obtain ⟨g, hg⟩ : ∃ g, g = w1.heap.size := ⟨_, rfl⟩
  rw [← hg] at HW ⊢
  clear hg w1
  have i0 : (0 : Int) < (n : Int) := by omega
  have i1 : (1 : Int) < (n : Int) := by omega
  have i8 : (8 : Int) < (n : Int) := by omega
  have i9 : (9 : Int) < (n : Int) := by omega
  have i16 : (16 : Int) ≤ (n : Int) := by omega
  have i20 : (20 : Int) ≤ (n : Int) := by omega
  have n12 : ¬ n = 12 := by omega
  have n16 : ¬ n = 16 := by omega
  have hpr := hs.pr
  have e2 : IntKind.u8.wrap h.pr = h.pr := by obtain ⟨_, _⟩ := hpr; rw [IntKind.wrap_u8]; omega
  clear hpr
  obtain ⟨c8, c9, c10, c11, c12⟩ := HW.out.c
  obtain ⟨y, cy, zy⟩ := HW.out.cell (i := 0) (by omega)
  have HW3 := Lib.hid (HW.out.store 0 (69))
  go_upto_region 6 with fail
  clear c8 c9 c10 c11 c12 cy zy
  clear HW
  generalize W2.setCell ⟨g, 0, none⟩ (.int .u8 (69)) = W3 at *
  obtain ⟨c8, c9, c10, c11, c12⟩ := HW3.out.c
  obtain ⟨y, cy, zy⟩ := HW3.out.cell (i := 1) (by omega)
  have HW4 := Lib.hid (HW3.out.store 1 (4 * h.ma))
  go_upto_region 7 with fail
  clear c8 c9 c10 c11 c12 cy zy
  clear HW3
  generalize W3.setCell ⟨g, 1, none⟩ (.int .u8 (4 * h.ma)) = W4 at *
  obtain ⟨c8, c9, c10, c11, c12⟩ := HW4.out.c
  go_wp2_with fail
  refine (HW4.out.put (i := 2) (x := h.ln) (by omega) (by omega) ⟨by have := hs.ln; omega, by have := hs.ln; omega⟩).mono ?_
  rintro e W5 ⟨rfl, hW5⟩
  have HW5 := Lib.hid hW5
  clear c8 c9 c10 c11 c12
  clear HW4 hW5
  obtain ⟨c8, c9, c10, c11, c12⟩ := HW5.out.c
  obtain ⟨y, cy, zy⟩ := HW5.out.cell (i := 8) (by omega)
  have HW6 := Lib.hid (HW5.out.store 8 64)
  go_upto_region 9 with fail
  clear c8 c9 c10 c11 c12 cy zy
  clear HW5
  generalize W5.setCell ⟨g, 8, none⟩ (.int .u8 64) = W6 at *
  obtain ⟨c8, c9, c10, c11, c12⟩ := HW6.out.c
  obtain ⟨y, cy, zy⟩ := HW6.out.cell (i := 9) (by omega)
  have HW7 := Lib.hid (HW6.out.store 9 (h.pr))
  go_upto_region 10 with fail
  clear c8 c9 c10 c11 c12 cy zy
  clear HW6
  generalize W6.setCell ⟨g, 9, none⟩ (.int .u8 (h.pr)) = W7 at *
  obtain ⟨W8, r12, hc12⟩ := HW7.out.drew.copy (HW7.out.drew.head.src hs) 12 (n - 12) 4 (by show 12 + 4 ≤ n; omega)
  have HW8 := Lib.hid hc12
  clear hc12
  go_cut [37] (fun _ wx => wx = W8)
  case first =>
    refine wp_region_held_drew (S := (fun _ => True)) (by kernel_rfl) trivial (fun hHeld => ?_)
    refine wpAnyH_take (i := 0) (v := ?_) (by simp only [List.getElem?_toArray, List.getElem?_cons_zero] <;> rfl) (by kernel_rfl) (by kernel_rfl) (by kernel_rfl) (by exact fun _ _ _ h => h) (Or.inl ⟨by rfl, ?_⟩) hHeld ?_
    rotate_left
    · intro w hSw; (try dsimp only at hSw); go_simp; (try with_reducible rfl)
    (try simp only [Act.put, List.setIfInBounds_toArray, List.set_cons_zero, List.set_cons_succ])
    refine wpAnyH_take (i := 1) (v := ?_) (by simp only [List.getElem?_toArray, List.getElem?_cons_succ, List.getElem?_cons_zero] <;> rfl) (by kernel_rfl) (by kernel_rfl) (by kernel_rfl) (by exact fun _ _ _ h => h) (Or.inl ⟨by rfl, ?_⟩) hHeld ?_
    rotate_left
    · intro w hSw; (try dsimp only at hSw); go_simp; (try with_reducible rfl)
    (try simp only [Act.put, List.setIfInBounds_toArray, List.set_cons_zero, List.set_cons_succ])
    refine wpAnyH_take (i := 2) (v := ?_) (by simp only [List.getElem?_toArray, List.getElem?_cons_succ, List.getElem?_cons_zero] <;> rfl) (by kernel_rfl) (by kernel_rfl) (by kernel_rfl) (by exact fun _ _ _ h => h) (Or.inl ⟨by rfl, ?_⟩) hHeld ?_
    rotate_left
    · intro w hSw; (try dsimp only at hSw); go_simp; (try with_reducible rfl)
    (try simp only [Act.put, List.setIfInBounds_toArray, List.set_cons_zero, List.set_cons_succ])
    refine wpAnyH_take (i := 3) (v := ?_) (by simp only [List.getElem?_toArray, List.getElem?_cons_succ, List.getElem?_cons_zero] <;> rfl) (by kernel_rfl) (by kernel_rfl) (by kernel_rfl) (by exact fun _ _ _ h => h) (Or.inl ⟨by rfl, ?_⟩) hHeld ?_
    rotate_left
    · intro w hSw; (try dsimp only at hSw); go_simp; (try with_reducible rfl)
    (try simp only [Act.put, List.setIfInBounds_toArray, List.set_cons_zero, List.set_cons_succ])
    refine wpAnyH_ready (rs := [4]) (by kernel_rfl) (by simp) ?_
    refine AllReadyH.cons (by simp only [List.getElem?_toArray, List.getElem?_cons_succ, List.getElem?_cons_zero] <;> rfl) (fun K hK => ?_) AllReadyH.nil
    rw [if_pos (by rfl)]
    refine Lib.wp_copy_run _ (.tmp 34) (.tmp 36) 25 25 rfl _ _ (by rfl) (by rfl) (r12 _) ?_
    refine hK.out _ _ trivial (fun hHeld => ?_)
    clear hK K
    refine wpAnyH_done (by kernel_rfl) ?_ _
    go_wp2_with fail
    go_meet
    rfl
  case rest =>
    subst hcut
    clear HW7 r12
    go_upto_region 11 with fail
    obtain ⟨W9, r16, hc16⟩ := HW8.out.drew.copy (HW8.out.drew.head.dst hs) 16 (n - 16) 4 (by show 16 + 4 ≤ n; omega)
    have HW9 := Lib.hid hc16
    clear hc16
    go_cut [42] (fun _ wx => wx = W9)
    case first =>
      refine wp_region_held_drew (S := (fun _ => True)) (by kernel_rfl) trivial (fun hHeld => ?_)
      refine wpAnyH_take (i := 0) (v := ?_) (by simp only [List.getElem?_toArray, List.getElem?_cons_zero] <;> rfl) (by kernel_rfl) (by kernel_rfl) (by kernel_rfl) (by exact fun _ _ _ h => h) (Or.inl ⟨by rfl, ?_⟩) hHeld ?_
      rotate_left
      · intro w hSw; (try dsimp only at hSw); go_simp; (try with_reducible rfl)
      (try simp only [Act.put, List.setIfInBounds_toArray, List.set_cons_zero, List.set_cons_succ])
      refine wpAnyH_take (i := 1) (v := ?_) (by simp only [List.getElem?_toArray, List.getElem?_cons_succ, List.getElem?_cons_zero] <;> rfl) (by kernel_rfl) (by kernel_rfl) (by kernel_rfl) (by exact fun _ _ _ h => h) (Or.inl ⟨by rfl, ?_⟩) hHeld ?_
      rotate_left
      · intro w hSw; (try dsimp only at hSw); go_simp; (try with_reducible rfl)
      (try simp only [Act.put, List.setIfInBounds_toArray, List.set_cons_zero, List.set_cons_succ])
      refine wpAnyH_take (i := 2) (v := ?_) (by simp only [List.getElem?_toArray, List.getElem?_cons_succ, List.getElem?_cons_zero] <;> rfl) (by kernel_rfl) (by kernel_rfl) (by kernel_rfl) (by exact fun _ _ _ h => h) (Or.inl ⟨by rfl, ?_⟩) hHeld ?_
      rotate_left
      · intro w hSw; (try dsimp only at hSw); go_simp; (try with_reducible rfl)
      (try simp only [Act.put, List.setIfInBounds_toArray, List.set_cons_zero, List.set_cons_succ])
      refine wpAnyH_take (i := 3) (v := ?_) (by simp only [List.getElem?_toArray, List.getElem?_cons_succ, List.getElem?_cons_zero] <;> rfl) (by kernel_rfl) (by kernel_rfl) (by kernel_rfl) (by exact fun _ _ _ h => h) (Or.inl ⟨by rfl, ?_⟩) hHeld ?_
      rotate_left
      · intro w hSw; (try dsimp only at hSw); go_simp; (try with_reducible rfl)
      (try simp only [Act.put, List.setIfInBounds_toArray, List.set_cons_zero, List.set_cons_succ])
      refine wpAnyH_ready (rs := [4]) (by kernel_rfl) (by simp) ?_
      refine AllReadyH.cons (by simp only [List.getElem?_toArray, List.getElem?_cons_succ, List.getElem?_cons_zero] <;> rfl) (fun K hK => ?_) AllReadyH.nil
      rw [if_pos (by rfl)]
      refine Lib.wp_copy_run _ (.tmp 39) (.tmp 41) 25 25 rfl _ _ (by rfl) (by rfl) (r16 _) ?_
      refine hK.out _ _ trivial (fun hHeld => ?_)
      clear hK K
      refine wpAnyH_done (by kernel_rfl) ?_ _
      go_wp2_with fail
      go_meet
      rfl
    case rest =>
      subst hcut
      have hW9 : WAt w w.heap.size g n h wc (h.first 0 ++ R) := HW9.out
      have HW10 := Lib.hid hW9
      have hby : Bytes (h.first 0 ++ R) := (hs.bytes_first ⟨by omega, by omega⟩).append (by rw [HR.out]; exact bytes_zeros _)
      have HC := Lib.hid (check_any ((hW9.lies hby (by omega)).take 20) n)
      have HCH : Hid (Half h.check) := Lib.hid hs.half_check
      clear HW8 HW9 r16 hW9 hby
      go_wp2_with fail
      refine HC.out.mono ?_
      rintro e W10 ⟨rfl, rfl⟩
      obtain ⟨c, hc⟩ : ∃ c, c = h.check := ⟨_, rfl⟩
      have hc' : (65535 - fd (tot 0 (List.take 20 (h.first 0 ++ R)))) = c := by rw [hc]; rfl
      rw [hc']
      rw [← hc] at HCH
      have hcc := HCH.out
      have hcw : IntKind.i64.wrap c = c := wraps_i64 c hcc.1 (by have := hcc.2; omega)
      have HPT := Lib.hid (HW10.out.put (i := 10) (x := c) (by omega) (by omega) hcc)
      have HCC := Lib.hid hc
      clear HC HCH hc' hcc hc HW10
      go_wp2_with fail
      refine HPT.out.mono ?_
      rintro e W11 ⟨rfl, hW11⟩
      have hW11' : WAt w w.heap.size g n h W11 (h.first c ++ R) := hW11
      have HW11 := Lib.hid hW11'
      have HH := Lib.hid (fun w => hasPorts_any h.pr w)
      obtain ⟨c8, c9, c10, c11, c12⟩ := HW11.out.c
      clear hW11 hW11' HPT hcw
      go_wp2_with fail
      refine (HH.out _).mono ?_
      rintro e W12 ⟨rfl, rfl⟩
      clear HH
      cases hp : ported h.pr with
      | false =>
        have HL : Hid (h.first c ++ R = h.packet) := Lib.hid (by rw [HCC.out, HR.out, HP.out]; unfold Hd.rest; rw [hp, if_neg (by simp), HN.out, Int.toNat_natCast])
        have hfin := HW11.out
        rw [HL.out] at hfin
        have HF := Lib.hid (And.intro (own_lower hfin.own (Nat.le_succ _)) hfin.below)
        clear hfin HL HW11 HCC
        go_wp2_with fail
        go_ret2
        exact ⟨g, rfl, HF.out⟩
      | true =>
        have hroom := hs.room hp
        have h24 : 24 ≤ n := by have := HN.out; omega
        obtain ⟨R4, hR4⟩ : ∃ R4, R4 = List.replicate (n - 24) (0 : Int) := ⟨_, rfl⟩
        have hRR : R = 0 :: 0 :: 0 :: 0 :: R4 := by rw [HR.out, hR4]; exact zeros4 (by omega)
        have HL : Hid (h.first c ++ (h.sp / 256 :: h.sp % 256 :: h.dp / 256 :: h.dp % 256 :: R4) = h.packet) := Lib.hid (by rw [HCC.out, hR4, HP.out]; unfold Hd.rest; rw [hp, if_pos rfl, HN.out, Int.toNat_natCast])
        rw [hRR] at HW11
        have HP1 := Lib.hid (HW11.out.put (i := 20) (x := h.sp) (by omega) (by omega) hs.sp)
        clear hRR HR hR4 HCC hroom
        go_wp2_with fail
        refine HP1.out.mono ?_
        rintro e W13 ⟨rfl, hW13⟩
        have HP2 := Lib.hid (hW13.put (i := 22) (x := h.dp) (by omega) (by omega) hs.dp)
        clear c8 c9 c10 c11 c12
        obtain ⟨c8, c9, c10, c11, c12⟩ := hW13.c
        clear hW13 HP1 HW11
        go_wp2_with fail
        refine HP2.out.mono ?_
        rintro e W14 ⟨rfl, hW14⟩
        have hfin : WAt w w.heap.size g n h W14 (h.first c ++ (h.sp / 256 :: h.sp % 256 :: h.dp / 256 :: h.dp % 256 :: R4)) := hW14
        rw [HL.out] at hfin
        have HF := Lib.hid (And.intro (own_lower hfin.own (Nat.le_succ _)) hfin.below)
        clear hfin hW14 HL HP2
        go_wp2_with fail
        go_ret2
        exact ⟨g, rfl, HF.out⟩
end Go.Proofs.Ytmigfemkbdehbaa
