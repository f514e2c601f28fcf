/- trie.Wrong and trie.Find. -/
import Derived.Test.YtcadjgmglaimdaaTr7
namespace Go.Proofs.Ytcadjgmglaimdaa
open Go.RowKit Go.Maps

set_option maxHeartbeats 1000000 in
theorem wrong_any {w : World} {A : Option Addr} {ps : List Pf} (h : PfsIn w A ps) {cap : Nat} (hcap : ps.length ≤ cap) :
    Calls Try.prog 11 #[.slice A ps.length cap] w fun e w' => e = .returned (.int .i64 (wrong ps)) ∧ Below w.heap.size w w' := by
  have H := Lib.hid (build_any h hcap)
  clear h hcap
  generalize ps.length = n at *
  go_enter Try.func11, Try.ntmps11
  go_wp2_with fail
  refine H.out.mono ?_
  rintro e w1 ⟨hb, ⟨_, rfl⟩ | ⟨h0, q, ns, rfl, _⟩⟩
  · go_wp2_with fail
    go_ret
    exact ⟨rfl, hb⟩
  · have HW := Lib.hid h0
    clear h0
    go_wp2_with fail
    go_ret
    exact ⟨by rw [HW.out]; rfl, hb⟩

def AdAt (w : World) (b o : Nat) (a : Ad) : Prop := w.cell? ⟨b, o, none⟩ = some (.int .u8 a.a0) ∧ w.cell? ⟨b, o + 1, none⟩ = some (.int .u8 a.a1) ∧ w.cell? ⟨b, o + 2, none⟩ = some (.int .u8 a.a2) ∧ w.cell? ⟨b, o + 3, none⟩ = some (.int .u8 a.a3)
structure AdsIn (w : World) (A : Option Addr) (ds : List Ad) : Prop where
  at_ : 0 < ds.length → ∃ b off, A = some ⟨b, off, none⟩ ∧ b < w.heap.size ∧ ∀ j a, ds[j]? = some a → AdAt w b (off + j * 4) a
  ok : ∀ a ∈ ds, a.Ok
  len : ds.length * 8 ≤ 281474976710656
theorem AdAt.below {B : Nat} {w w' : World} {b o : Nat} {a : Ad} (h : AdAt w b o a) (hb : Below B w w') (hl : b < B) : AdAt w' b o a := by
  obtain ⟨h0, h1, h2, h3⟩ := h
  have key : ∀ i, w'.cell? ⟨b, i, none⟩ = w.cell? ⟨b, i, none⟩ := fun i => hb.cell (p := ⟨b, i, none⟩) hl
  exact ⟨(key _).trans h0, (key _).trans h1, (key _).trans h2, (key _).trans h3⟩
theorem AdsIn.below {w w' : World} {A : Option Addr} {ds : List Ad} (h : AdsIn w A ds) (hb : Below w.heap.size w w') : AdsIn w' A ds := by
  refine ⟨fun h0 => ?_, h.ok, h.len⟩
  obtain ⟨b, off, e, hl, hc⟩ := h.at_ h0
  exact ⟨b, off, e, Nat.lt_of_lt_of_le hl hb.size, fun j p hp => (hc j p hp).below hb hl⟩
theorem AdsIn.next {w : World} {A : Option Addr} {ds : List Ad} (h : AdsIn w A ds) {i : Nat} (hi : i < ds.length) : ∃ b off a, A = some ⟨b, off, none⟩ ∧ ds[i]? = some a ∧ AdAt w b (off + i * 4) a ∧ a.Ok ∧ b < w.heap.size := by
  obtain ⟨b, off, e, hl, hc⟩ := h.at_ (by omega)
  have hx : ds[i]? = some ds[i] := List.getElem?_eq_getElem hi
  exact ⟨b, off, _, e, hx, hc i _ hx, h.ok _ (List.getElem_mem hi), hl⟩

/-- What Find tells, in two rows. -/
structure Told (w : World) (g h : Nat) (ps : List Pf) (ds : List Ad) (i : Nat) : Prop where
  ne : g ≠ h
  to_ : ∃ F, w.rowIs g 3 ds.length F ∧ ∀ j a, j < i → ds[j]? = some a → F j = .int .i64 (lookTo a.num ps)
  is_ : ∃ F, w.rowIs h 4 ds.length F ∧ ∀ j a, j < i → ds[j]? = some a → F j = .bool (lookIs a.num ps)
theorem Told.below {w w' : World} {g h : Nat} {ps : List Pf} {ds : List Ad} {i : Nat} (t : Told w g h ps ds i) (hb : Below w.heap.size w w') : Told w' g h ps ds i := by
  obtain ⟨F, h1, h2⟩ := t.to_
  obtain ⟨G, h3, h4⟩ := t.is_
  exact ⟨t.ne, ⟨F, h1.of_block (hb.block g h1.lt), h2⟩, ⟨G, h3.of_block (hb.block h h3.lt), h4⟩⟩
theorem Told.next {w : World} {g h : Nat} {ps : List Pf} {ds : List Ad} {i : Nat} {a : Ad} (t : Told w g h ps ds i) (ha : ds[i]? = some a) :
    Told ((w.setCell ⟨g, i, none⟩ (.int .i64 (lookTo a.num ps))).setCell ⟨h, i, none⟩ (.bool (lookIs a.num ps))) g h ps ds (i + 1) := by
  obtain ⟨F, h1, h2⟩ := t.to_
  obtain ⟨G, h3, h4⟩ := t.is_
  refine ⟨t.ne, ⟨_, (h1.set i _).setOther (a := ⟨h, i, none⟩) t.ne _, fun j b hj hb => ?_⟩, ⟨_, (h3.setOther (a := ⟨g, i, none⟩) (fun e => t.ne e.symm) _).set i _, fun j b hj hb => ?_⟩⟩
  · by_cases c : j = i
    · subst c
      rw [ha] at hb
      injection hb with hb
      rw [if_pos rfl, hb]
    · rw [if_neg c]
      exact h2 j b (by omega) hb
  · by_cases c : j = i
    · subst c
      rw [ha] at hb
      injection hb with hb
      rw [if_pos rfl, hb]
    · rw [if_neg c]
      exact h4 j b (by omega) hb
def Found (w : World) (ps : List Pf) (ds : List Ad) (e : Ending) (w' : World) : Prop :=
  Below w.heap.size w w' ∧ ((wrong ps ≠ 0 ∧ e = .returned (.tuple #[.slice none 0 0, .slice none 0 0, .int .i64 (wrong ps)])) ∨
    (wrong ps = 0 ∧ ∃ g h, e = .returned (.tuple #[.slice (some ⟨g, 0, none⟩) ds.length ds.length, .slice (some ⟨h, 0, none⟩) ds.length ds.length, .int .i64 0]) ∧ w.heap.size ≤ g ∧ w.heap.size ≤ h ∧ Told w' g h ps ds ds.length))

theorem made2 {m w0 : World} {ps : List Pf} {ds : List Ad} (hb : Below m.heap.size m w0) :
    m.heap.size ≤ w0.heap.size ∧ m.heap.size ≤ w0.heap.size + 1 ∧ Below m.heap.size m ((w0.alloc (.cells (madeCells #[.int .i64 0] ds.length) 3)).alloc (.cells (madeCells #[.bool false] ds.length) 4)) ∧ Told ((w0.alloc (.cells (madeCells #[.int .i64 0] ds.length) 3)).alloc (.cells (madeCells #[.bool false] ds.length) 4)) w0.heap.size (w0.heap.size + 1) ps ds 0 := by
  have h2 := World.rowIs_made (w0.alloc (.cells (madeCells #[.int .i64 0] ds.length) 3)) (.bool false) ds.length 4
  rw [show (w0.alloc (.cells (madeCells #[.int .i64 0] ds.length) 3)).heap.size = w0.heap.size + 1 by simp] at h2
  exact ⟨hb.size, Nat.le_succ_of_le hb.size, (hb.alloc hb.size _).alloc (by simp; exact Nat.le_succ_of_le hb.size) _, by omega, ⟨_, (World.rowIs_made w0 (.int .i64 0) ds.length 3).alloc _, fun j _ hj => absurd hj (by omega)⟩, ⟨_, h2, fun j _ hj => absurd hj (by omega)⟩⟩
theorem made5 {m w0 : World} {ps : List Pf} {ds : List Ad} (hb : Below m.heap.size m w0) :
    m.heap.size ≤ w0.heap.size + 1 ∧ m.heap.size ≤ w0.heap.size ∧ Below m.heap.size m ((w0.alloc (.cells (madeCells #[.bool false] ds.length) 4)).alloc (.cells (madeCells #[.int .i64 0] ds.length) 3)) ∧ Told ((w0.alloc (.cells (madeCells #[.bool false] ds.length) 4)).alloc (.cells (madeCells #[.int .i64 0] ds.length) 3)) (w0.heap.size + 1) w0.heap.size ps ds 0 := by
  have h2 := World.rowIs_made (w0.alloc (.cells (madeCells #[.bool false] ds.length) 4)) (.int .i64 0) ds.length 3
  rw [show (w0.alloc (.cells (madeCells #[.bool false] ds.length) 4)).heap.size = w0.heap.size + 1 by simp] at h2
  exact ⟨Nat.le_succ_of_le hb.size, hb.size, (hb.alloc hb.size _).alloc (by simp; exact Nat.le_succ_of_le hb.size) _, by omega, ⟨_, h2, fun j _ hj => absurd hj (by omega)⟩, ⟨_, (World.rowIs_made w0 (.bool false) ds.length 4).alloc _, fun j _ hj => absurd hj (by omega)⟩⟩

set_option maxRecDepth 100000 in
set_option maxHeartbeats 4000000 in
theorem find_any {w : World} {A D : Option Addr} {ps : List Pf} {ds : List Ad} (h : PfsIn w A ps) {cap cad : Nat} (hcap : ps.length ≤ cap) (hd : AdsIn w D ds) (hcad : ds.length ≤ cad) :
    Calls Try.prog 9 #[.slice A ps.length cap, .slice D ds.length cad] w (Found w ps ds) := by
  have H := Lib.hid (build_any h hcap)
  have HOK := Lib.hid h.ok
  have hlen := hd.len
  have HD := Lib.hid hd
  clear h hcap hd
  generalize ps.length = pn at *
  obtain ⟨n, hn⟩ : ∃ n, ds.length = n := ⟨_, rfl⟩
  have hm1 := run_make_row' (P := Try.prog) 27 3 (.int .i64 0) 8 (by kernel_rfl) (by kernel_rfl) rfl .i64 .i64 n (by omega) (by omega)
  have hm2 := run_make_row' (P := Try.prog) 28 4 (.bool false) 1 (by kernel_rfl) (by kernel_rfl) rfl .i64 .i64 n (by omega) (by omega)
  have HN := Lib.hid hn
  rw [hn] at hlen hcad ⊢
  go_enter Try.func9, Try.ntmps9
  go_wp2_with fail
  refine H.out.mono ?_
  rintro e m ⟨hb, ⟨h0, rfl⟩ | ⟨h0, q, ns, rfl, t1, t2, t3⟩⟩
  · have HF : Hid (Found w ps ds (.returned (.tuple #[.slice none 0 0, .slice none 0 0, .int .i64 (wrong ps)])) m) := Lib.hid ⟨hb, .inl ⟨h0, rfl⟩⟩
    have h1 : (wrong ps != 0) = true := by simpa using h0
    clear H hb h0 HOK HD HN hn
    generalize wrong ps = E at *
    go_wp2_with fail
    go_ret3
    exact HF.out
  · have HG := Lib.hid ((wrong_ok ps).1 h0)
    have HT := Lib.hid (And.intro t1 (And.intro t2 t3))
    have HBM := Lib.hid hb
    have HW := Lib.hid h0
    clear H t1 t2 t3 hb h0 hn
    go_wp2_with fail
    go_cut [9, 10] (fun v9 v10 wx => Hid (∃ g h, v9 = .slice (some ⟨g, 0, none⟩) n n ∧ v10 = .slice (some ⟨h, 0, none⟩) n n ∧ m.heap.size ≤ g ∧ m.heap.size ≤ h ∧ Below m.heap.size m wx ∧ Told wx g h ps ds 0))
    case first =>
      obtain rfl := HN.out
      have HS : Hid (∀ W, Below m.heap.size m W → (fun _ : World => True) W) := Lib.hid (fun _ _ => trivial)
      refine wp_region_held_drew (S := (fun _ => True)) (by kernel_rfl) (HS.out _ (Below.refl _ _).drew) (fun hHeld => ?_)
      obtain ⟨w0, hw0⟩ : ∃ W0, W0 = m.drew := ⟨_, rfl⟩
      have HB0 : Hid (Below m.heap.size m w0) := Lib.hid (by rw [hw0]; exact (Below.refl _ _).drew)
      rw [← hw0]
      clear hw0
      refine wpAnyH_take (i := 0) (v := ?_) (by simp only [List.getElem?_toArray, List.getElem?_cons_zero] <;> rfl) (by kernel_rfl) (by kernel_rfl) (by kernel_rfl) (by exact fun _ _ _ h => h) (Or.inl ⟨by rfl, ?_⟩) hHeld ?_
      rotate_left
      · intro w hSw; (try dsimp only at hSw); go_simp; (try with_reducible rfl)
      (try simp only [Act.put, List.setIfInBounds_toArray, List.set_cons_zero, List.set_cons_succ])
      refine wpAnyH_take (i := 1) (v := ?_) (by simp only [List.getElem?_toArray, List.getElem?_cons_succ, List.getElem?_cons_zero] <;> rfl) (by kernel_rfl) (by kernel_rfl) (by kernel_rfl) (by exact fun _ _ _ h => h) (Or.inl ⟨by rfl, ?_⟩) hHeld ?_
      rotate_left
      · intro w hSw; (try dsimp only at hSw); go_simp; (try with_reducible rfl)
      (try simp only [Act.put, List.setIfInBounds_toArray, List.set_cons_zero, List.set_cons_succ])
      refine wpAnyH_take (i := 3) (v := ?_) (by simp only [List.getElem?_toArray, List.getElem?_cons_succ, List.getElem?_cons_zero] <;> rfl) (by kernel_rfl) (by kernel_rfl) (by kernel_rfl) (by exact fun _ _ _ h => h) (Or.inl ⟨by rfl, ?_⟩) hHeld ?_
      rotate_left
      · intro w hSw; (try dsimp only at hSw); go_simp; (try with_reducible rfl)
      (try simp only [Act.put, List.setIfInBounds_toArray, List.set_cons_zero, List.set_cons_succ])
      refine wpAnyH_take (i := 4) (v := ?_) (by simp only [List.getElem?_toArray, List.getElem?_cons_succ, List.getElem?_cons_zero] <;> rfl) (by kernel_rfl) (by kernel_rfl) (by kernel_rfl) (by exact fun _ _ _ h => h) (Or.inl ⟨by rfl, ?_⟩) hHeld ?_
      rotate_left
      · intro w hSw; (try dsimp only at hSw); go_simp; (try with_reducible rfl)
      (try simp only [Act.put, List.setIfInBounds_toArray, List.set_cons_zero, List.set_cons_succ])
      refine wpAnyH_ready (rs := [2, 5]) (by kernel_rfl) (by simp) ?_
      refine AllReadyH.cons (by simp only [List.getElem?_toArray, List.getElem?_cons_succ, List.getElem?_cons_zero] <;> rfl) (fun K hK => ?_) (AllReadyH.cons (by simp only [List.getElem?_toArray, List.getElem?_cons_succ, List.getElem?_cons_zero] <;> rfl) (fun K hK => ?_) AllReadyH.nil)
      · go_simp
        refine hK.out _ _ ?_ (fun hHeld => ?_)
        · trivial
        clear hK K
        (try simp only [Act.put, List.setIfInBounds_toArray, List.set_cons_zero, List.set_cons_succ])
        refine wpAnyH_take (i := 6) (v := ?_) (by simp only [List.getElem?_toArray, List.getElem?_cons_succ, List.getElem?_cons_zero] <;> rfl) (by kernel_rfl) (by kernel_rfl) (by kernel_rfl) (by exact fun _ _ _ h => h) (Or.inl ⟨by rfl, ?_⟩) hHeld ?_
        rotate_left
        · intro w hSw; (try dsimp only at hSw); go_simp; (try with_reducible rfl)
        (try simp only [Act.put, List.setIfInBounds_toArray, List.set_cons_zero, List.set_cons_succ])
        refine wpAnyH_ready (rs := [5]) (by kernel_rfl) (by simp) ?_
        refine AllReadyH.cons (by simp only [List.getElem?_toArray, List.getElem?_cons_succ, List.getElem?_cons_zero] <;> rfl) (fun K hK => ?_) AllReadyH.nil
        go_simp
        refine hK.out _ _ ?_ (fun hHeld => ?_)
        · trivial
        clear hK K
        (try simp only [Act.put, List.setIfInBounds_toArray, List.set_cons_zero, List.set_cons_succ])
        refine wpAnyH_take (i := 7) (v := ?_) (by simp only [List.getElem?_toArray, List.getElem?_cons_succ, List.getElem?_cons_zero] <;> rfl) (by kernel_rfl) (by kernel_rfl) (by kernel_rfl) (by exact fun _ _ _ h => h) (Or.inl ⟨by rfl, ?_⟩) hHeld ?_
        rotate_left
        · intro w hSw; (try dsimp only at hSw); go_simp; (try with_reducible rfl)
        (try simp only [Act.put, List.setIfInBounds_toArray, List.set_cons_zero, List.set_cons_succ])
        refine wpAnyH_done (by kernel_rfl) ?_ _
        go_wp2_with fail
        go_meet
        exact Lib.hid ⟨_, _, rfl, rfl, made2 HB0.out⟩
      · go_simp
        refine hK.out _ _ ?_ (fun hHeld => ?_)
        · trivial
        clear hK K
        (try simp only [Act.put, List.setIfInBounds_toArray, List.set_cons_zero, List.set_cons_succ])
        refine wpAnyH_ready (rs := [2]) (by kernel_rfl) (by simp) ?_
        refine AllReadyH.cons (by simp only [List.getElem?_toArray, List.getElem?_cons_succ, List.getElem?_cons_zero] <;> rfl) (fun K hK => ?_) AllReadyH.nil
        go_simp
        refine hK.out _ _ ?_ (fun hHeld => ?_)
        · trivial
        clear hK K
        (try simp only [Act.put, List.setIfInBounds_toArray, List.set_cons_zero, List.set_cons_succ])
        refine wpAnyH_take (i := 6) (v := ?_) (by simp only [List.getElem?_toArray, List.getElem?_cons_succ, List.getElem?_cons_zero] <;> rfl) (by kernel_rfl) (by kernel_rfl) (by kernel_rfl) (by exact fun _ _ _ h => h) (Or.inl ⟨by rfl, ?_⟩) hHeld ?_
        rotate_left
        · intro w hSw; (try dsimp only at hSw); go_simp; (try with_reducible rfl)
        (try simp only [Act.put, List.setIfInBounds_toArray, List.set_cons_zero, List.set_cons_succ])
        refine wpAnyH_take (i := 7) (v := ?_) (by simp only [List.getElem?_toArray, List.getElem?_cons_succ, List.getElem?_cons_zero] <;> rfl) (by kernel_rfl) (by kernel_rfl) (by kernel_rfl) (by exact fun _ _ _ h => h) (Or.inl ⟨by rfl, ?_⟩) hHeld ?_
        rotate_left
        · intro w hSw; (try dsimp only at hSw); go_simp; (try with_reducible rfl)
        (try simp only [Act.put, List.setIfInBounds_toArray, List.set_cons_zero, List.set_cons_succ])
        refine wpAnyH_done (by kernel_rfl) ?_ _
        go_wp2_with fail
        go_meet
        exact Lib.hid ⟨_, _, rfl, rfl, made5 HB0.out⟩
    case rest =>
      obtain ⟨g, h, rfl, rfl, hg, hh, hbx, htx⟩ := hcut.out
      have HX := Lib.hid (And.intro hbx htx)
      clear hcut hbx htx hm1 hm2
      go_wp2_with fail
      go_loopg [29] n (fun k v29 wr => ∃ i : Nat, v29 = .int .i64 (i : Int) ∧ i + k = n ∧ Hid (Below m.heap.size m wr ∧ Told wr g h ps ds i))
      case atStart => exact ⟨0, rfl, by omega, HX⟩
      case round =>
        clear HX
        obtain ⟨i, rfl, hik, HI⟩ := hrel
        cases gk with
        | zero =>
          obtain rfl : i = n := by omega
          have HF : Hid (Found w ps ds (.returned (.tuple #[.slice (some ⟨g, 0, none⟩) i i, .slice (some ⟨h, 0, none⟩) i i, .int .i64 0])) wr) := Lib.hid (by
            have e := HN.out
            have hs := HBM.out.size
            refine ⟨HBM.out.trans (HI.out.1.mono hs), .inr ⟨HW.out, g, h, by rw [e], by omega, by omega, ?_⟩⟩
            rw [e]; exact HI.out.2)
          clear HI HW HG HT HBM HD HOK HN
          go_wp2_with fail
          go_ret3
          exact HF.out
        | succ k =>
          have hi : i < n := by omega
          have i1 : (i : Int) < (n : Int) := by omega
          obtain ⟨b, off, a, rfl, hp, hat, hok, hbl⟩ := HD.out.next (i := i) (by have := HN.out; omega)
          have hat2 := hat.below (HBM.out.trans (HI.out.1.mono HBM.out.size)) hbl
          obtain ⟨q0, q1, q2, q3⟩ := hat2
          have HL : Hid (∀ W, Below m.heap.size m W → Calls Try.prog 23 #[.pointer (some ⟨q, 0, none⟩), .agg a.cells.toArray] W fun e w' => e = .returned (.tuple #[.int .i64 (lookTo a.num ps), .bool (lookIs a.num ps)]) ∧ Below W.heap.size W w') := Lib.hid (fun W hW => by
            have e := bst_look HT.out.2.1 HG.out hok.lt (fun r hr => (HOK.out r hr).lt)
            have := longest_any (HT.out.1.below hW) HT.out.2.1 hok HT.out.2.2
            rw [e] at this
            exact this)
          unfold Ad.cells at HL
          have HN2 : Hid (∀ W, Below wr.heap.size wr W → (∃ u, W.cell? ⟨g, i, none⟩ = some u) ∧ W.frozen? ⟨g, i, none⟩ = false ∧ (∃ u, W.cell? ⟨h, i, none⟩ = some u) ∧ W.frozen? ⟨h, i, none⟩ = false ∧ g ≠ h ∧ Below m.heap.size m ((W.setCell ⟨g, i, none⟩ (.int .i64 (lookTo a.num ps))).setCell ⟨h, i, none⟩ (.bool (lookIs a.num ps))) ∧ Told ((W.setCell ⟨g, i, none⟩ (.int .i64 (lookTo a.num ps))).setCell ⟨h, i, none⟩ (.bool (lookIs a.num ps))) g h ps ds (i + 1)) := Lib.hid (fun W hW => by
            have ht := HI.out.2.below hW
            obtain ⟨G1, e1, _⟩ := ht.to_
            obtain ⟨G2, e2, _⟩ := ht.is_
            have hin : i < ds.length := by have := HN.out; omega
            have hbb := HI.out.1.trans (hW.mono HI.out.1.size)
            exact ⟨⟨_, e1.cell hin⟩, e1.frozen i, ⟨_, e2.cell hin⟩, e2.frozen i, ht.ne, (hbb.setCell (p := ⟨g, i, none⟩) hg _).setCell (p := ⟨h, i, none⟩) hh _, ht.next hp⟩)
          have HB3 : Hid (Below wr.heap.size wr (wr.alloc (.cells #[.int .u8 a.a0, .int .u8 a.a1, .int .u8 a.a2, .int .u8 a.a3] 24))) := Lib.hid ((Below.refl _ _).alloc (Nat.le_refl _) _)
          have HBI := Lib.hid HI.out.1
          clear HI hp hat hok hbl HW HG HT HBM HD HOK
          generalize lookTo a.num ps = X at *
          generalize lookIs a.num ps = Y at *
          go_wp2_with fail
          refine (HL.out _ (HBI.out.trans (HB3.out.mono HBI.out.size))).mono ?_
          rintro e w4 ⟨rfl, hb4⟩
          obtain ⟨⟨u1, cg⟩, fg, ⟨u2, ch⟩, fh, hne, hbe, hte⟩ := HN2.out w4 (HB3.out.trans (hb4.mono HB3.out.size))
          have HE := Lib.hid (And.intro hbe hte)
          have hne2 : h ≠ g := fun e => hne e.symm
          clear HN2 hb4 hbe hte q0 q1 q2 q3 HL HB3 HBI
          go_wp2_with fail
          go_roundg k
          case measure => omega
          case rel => exact ⟨i + 1, by go_num, by omega, HE⟩
end Go.Proofs.Ytcadjgmglaimdaa
