/- ring: out, in, perform. -/
import Derived.Test.YthjnjfolbhhpnaaRg5
import Derived.Test.YthjnjfolbhhpnaaIn3
namespace Go.Proofs.Ythjnjfolbhhpnaa
open Go.RowKit Go.Maps

/-- What an operation leaves. -/
def Done (B : Nat) (w : World) (b : Nat) (A : Option Addr) (r : Qu × Int × Int) (e : Ending) (w' : World) : Prop :=
  e = .returned (.tuple #[.int .i64 r.2.1, .int .i64 r.2.2]) ∧ ∃ A' cap', LineAt B w' b r.1 A' cap' ∧ (∀ k, Ab A' k → Ab A k ∨ w.heap.size ≤ k) ∧ Chg (fun i => i = b ∨ Ab A i) w w'

theorem ret_two {a b c d : Int} (h : a = c) (k : b = d) : Ending.returned (.tuple #[.int .i64 a, .int .i64 b]) = .returned (.tuple #[.int .i64 c, .int .i64 d]) := by rw [h, k]

/-- The store of a shorter queue. -/
theorem out_end {B : Nat} {w : World} {b : Nat} {x : Int} {r : List Int} {m mb dr : Int} {A A' : Option Addr} {cap cap' : Nat} (h : LineAt B w b ⟨x :: r, m, mb, dr⟩ A cap) (hf : Fifo B w A' r cap') (hab : ∀ k, Ab A' k → Ab A k) :
    ∃ A2 cap2, LineAt B ((w.setCell ⟨b, 0, none⟩ (.slice A' r.length cap')).setCell ⟨b, 4, none⟩ (.int .i64 (tot r))) b ⟨r, m, mb, dr⟩ A2 cap2 ∧ (∀ k, Ab A2 k → Ab A k ∨ w.heap.size ≤ k) ∧
      Chg (fun i => i = b ∨ Ab A i) w ((w.setCell ⟨b, 0, none⟩ (.slice A' r.length cap')).setCell ⟨b, 4, none⟩ (.int .i64 (tot r))) := by
  have hchg : Chg (fun i => i = b) w ((w.setCell ⟨b, 0, none⟩ (.slice A' r.length cap')).setCell ⟨b, 4, none⟩ (.int .i64 (tot r))) := ((Chg.refl (fun i => i = b) w).set (p := ⟨b, 0, none⟩) (Or.inl rfl) _).set (p := ⟨b, 4, none⟩) (Or.inl rfl) _
  refine ⟨A', cap', ⟨((h.row.set 0 _).set 4 _).congr (fun i hi => ?_), hf.chg hchg (fun g hg e => ?_), fun hk => h.nab (hab b hk)⟩, fun k hk => .inl (hab k hk), hchg.mono (fun k _ e => .inl e)⟩
  · unfold five
    rcases (by omega : i = 0 ∨ i = 1 ∨ i = 2 ∨ i = 3 ∨ i = 4) with rfl | rfl | rfl | rfl | rfl <;> simp
  · exact h.nab (e ▸ hab g hg)

set_option maxRecDepth 100000 in
set_option maxHeartbeats 4000000 in
theorem out_any {B : Nat} {w : World} {b : Nat} {s : Qu} {A : Option Addr} {cap : Nat} (h : LineAt B w b s A cap) (ok : s.Ok) :
    Calls Try.prog 27 #[.pointer (some ⟨b, 0, none⟩)] w (Done B w b A s.get) := by
  obtain ⟨xs, m, mb, dr⟩ := s
  cases xs with
  | nil =>
    have h0 := h.c0
    have HZ : Hid (Done B w b A (Qu.get ⟨[], m, mb, dr⟩) (.returned (.tuple #[.int .i64 0, .int .i64 3])) w) := Lib.hid ⟨rfl, A, cap, h, fun k hk => .inl hk, Chg.refl _ _⟩
    generalize Done B w b A (Qu.get ⟨[], m, mb, dr⟩) = D at *
    clear h ok
    go_enter Try.func27, Try.ntmps27
    go_wp2_with fail
    exact HZ.out
  | cons x r =>
    obtain ⟨g, off, A', cap', rfl, hx, hsl, hf, hab⟩ := h.fifo.tail_run
    have h0 := h.c0
    have h4 := h.c4
    have f0 := h.fz 0
    have f4 := h.fz 4
    have hlt : b < w.heap.size := h.lt
    have hx' := hx
    obtain ⟨A2, cap2, h1, h2, h3⟩ := out_end h hf hab
    have hw : IntKind.i64.wrap (tot (x :: r) - x) = tot r := by
      have h5 := tot_pos ok.sizes
      have h6 := ok.tot
      have h7 := ok.mb
      have h8 := ok.sizes
      simp only [List.any_cons, Bool.or_eq_false_iff] at h8
      have := bad_false.1 h8.1
      have := tot_pos h8.2
      simp only [tot, List.length_cons] at h5 h6 ⊢
      rw [show x + tot r - x = tot r by omega]
      dsimp only at h7
      simp [IntKind.wrap, IntKind.bits, IntKind.signed]
      omega
    have hnb : (x :: r).length = r.length + 1 := rfl
    rw [hnb] at h0
    dsimp only at h4
    have HZ : Hid (Done B w b (some ⟨g, off, none⟩) (Qu.get ⟨x :: r, m, mb, dr⟩) (.returned (.tuple #[.int .i64 x, .int .i64 0])) ((w.setCell ⟨b, 0, none⟩ (.slice A' r.length cap')).setCell ⟨b, 4, none⟩ (.int .i64 (tot r)))) := Lib.hid ⟨rfl, A2, cap2, h1, h2, h3⟩
    generalize Done B w b (some ⟨g, off, none⟩) (Qu.get ⟨x :: r, m, mb, dr⟩) = D at *
    clear h ok hf hab h1 h2 h3 hnb hx'
    generalize tot (x :: r) = T at *
    generalize tot r = T' at *
    generalize r.length = n at *
    go_enter Try.func27, Try.ntmps27
    go_wp2_with fail
    exact HZ.out

/-- The append and the two stores of a packet that fits. -/
theorem in_step {B : Nat} {w W1 : World} {b q : Nat} {s : Qu} {n : Int} {A : Option Addr} {cap : Nat} (h : LineAt B w b s A cap) (ok : s.Ok) (hB : B ≤ w.heap.size) (hb : Below w.heap.size w W1) (hq : W1.cell? ⟨q, 0, none⟩ = some (.int .i64 n)) (hql : q < W1.heap.size) :
    ∃ A' cap' W, (∀ ty, (Builtin.append_ #[22, 22] ty #[.slice A s.has.length cap, .slice (some ⟨q, 0, none⟩) 1 1]).run Try.prog W1 = .ok (.slice A' (s.has.length + 1) cap') W) ∧
      W.cell? ⟨b, 0, none⟩ = some (.slice A s.has.length cap) ∧ W.cell? ⟨b, 4, none⟩ = some (.int .i64 (tot s.has)) ∧ W.frozen? ⟨b, 0, none⟩ = false ∧ W.frozen? ⟨b, 4, none⟩ = false ∧
      LineAt B ((W.setCell ⟨b, 0, none⟩ (.slice A' (s.has.length + 1) cap')).setCell ⟨b, 4, none⟩ (.int .i64 (tot s.has + n))) b { s with has := s.has ++ [n] } A' cap' ∧
      (∀ k, Ab A' k → Ab A k ∨ w.heap.size ≤ k) ∧ Chg (fun i => i = b ∨ Ab A i) w ((W.setCell ⟨b, 0, none⟩ (.slice A' (s.has.length + 1) cap')).setCell ⟨b, 4, none⟩ (.int .i64 (tot s.has + n))) := by
  have h1 := h.below hb
  have hsm := ok.small
  have hy : IntsIn W1 (some ⟨q, 0, none⟩) [n] := ⟨fun _ => ⟨q, 0, rfl, hql, fun j x hx => by
    cases j with
    | zero => simp only [List.getElem?_cons_zero, Option.some.injEq] at hx; subst hx; exact hq
    | succ j => simp at hx⟩, by simp⟩
  obtain ⟨A', cap', W, hr, hf, hc, hab⟩ := fifo_append h1.fifo hy 1 (Nat.le_trans hB hb.size) (by simp; omega) (by simp)
  have hnb : ¬ Ab A b := h.nab
  have hrow : W.rowIs b 45 5 (five (.slice A s.has.length cap) (.int .i64 s.most) (.int .i64 s.mb) (.int .i64 s.dr) (.int .i64 (tot s.has))) := h1.row.of_block (hc.block b h1.lt hnb)
  have hW : Chg (Ab A) w W := (Chg.of_below hb _).trans hc
  have hnew : ∀ k, Ab A' k → Ab A k ∨ w.heap.size ≤ k := fun k hk => (hab k hk).imp id (fun h => Nat.le_trans hb.size h)
  have hnb' : ¬ Ab A' b := fun hk => by
    rcases hnew b hk with h' | h'
    · exact hnb h'
    · have := h.lt; omega
  have hchg : Chg (fun i => i = b) W ((W.setCell ⟨b, 0, none⟩ (.slice A' (s.has.length + 1) cap')).setCell ⟨b, 4, none⟩ (.int .i64 (tot s.has + n))) := ((Chg.refl (fun i => i = b) W).set (p := ⟨b, 0, none⟩) (Or.inl rfl) _).set (p := ⟨b, 4, none⟩) (Or.inl rfl) _
  refine ⟨A', cap', W, hr, hrow.cell (by omega), hrow.cell (by omega), hrow.frozen 0, hrow.frozen 4, ⟨((hrow.set 0 _).set 4 _).congr (fun i hi => ?_), hf.chg hchg (fun g hg e => hnb' (e ▸ hg)), hnb'⟩, hnew, (hW.mono (fun k _ e => .inr e)).trans (hchg.mono (fun k _ e => .inl e))⟩
  unfold five
  rcases (by omega : i = 0 ∨ i = 1 ∨ i = 2 ∨ i = 3 ∨ i = 4) with rfl | rfl | rfl | rfl | rfl <;> simp [tot_append, tot]

set_option maxRecDepth 100000 in
set_option maxHeartbeats 4000000 in
theorem in_fits {B : Nat} {w : World} {b : Nat} {s : Qu} {A : Option Addr} {cap : Nat} (h : LineAt B w b s A cap) (ok : s.Ok) (hB : B ≤ w.heap.size) {n : Int} (hn : bad n = false) (hfit : s.fits n = true) :
    Calls Try.prog 26 #[.pointer (some ⟨b, 0, none⟩), .int .i64 n] w (Done B w b A ({ s with has := s.has ++ [n] }, 1, 0)) := by
  have H1 := Lib.hid (fun w => wrongSize_eq n w)
  have H2 := Lib.hid (fits_any h ok hn)
  rw [hn] at H1
  rw [hfit] at H2
  have h0 := h.c0
  have h4 := h.c4
  have f0 := h.fz 0
  have f4 := h.fz 4
  have hlt : b < w.heap.size := h.lt
  have HS := Lib.hid (fun W1 q hb hq hql => in_step (W1 := W1) (q := q) (n := n) h ok hB hb hq hql)
  have hw : IntKind.i64.wrap (tot s.has + n) = tot s.has + n := by
    have := bad_false.1 hn
    have := tot_pos ok.sizes
    have := ok.tot
    have := ok.mb
    simp [IntKind.wrap, IntKind.bits, IntKind.signed]
    omega
  clear h ok hB hn hfit
  go_enter Try.func26, Try.ntmps26
  go_wp2_with fail
  refine (H1.out _).mono ?_
  rintro e w1 ⟨rfl, rfl⟩
  go_wp2_with fail
  refine H2.out.mono ?_
  rintro e w1 ⟨rfl, k, rfl⟩
  clear H1 H2
  have hb1 : Below w.heap.size w ((w.drewN k).alloc (.cells #[.int .i64 n] 3)) := by
    have h0 := (Below.refl w.heap.size w).alloc (Nat.le_refl _) (.cells #[.int .i64 n] 3)
    exact ⟨h0.os, h0.tape, h0.output, h0.size, h0.block⟩
  obtain ⟨A', cap', W, hr, g0, g4, k0, k4, hL, hA, hC⟩ := HS.out ((w.drewN k).alloc (.cells #[.int .i64 n] 3)) w.heap.size hb1 (cell_of_row _ _ 0 _ _ _ (heap_alloc_new (w.drewN k) _)) (by show w.heap.size < ((w.drewN k).alloc _).heap.size; simp)
  have HR := Lib.hid hr
  have HZ : Hid (Done B w b A ({ s with has := s.has ++ [n] }, 1, 0) (.returned (.tuple #[.int .i64 1, .int .i64 0])) ((W.setCell ⟨b, 0, none⟩ (.slice A' (s.has.length + 1) cap')).setCell ⟨b, 4, none⟩ (.int .i64 (tot s.has + n)))) := Lib.hid ⟨rfl, A', cap', hL, hA, hC⟩
  generalize Done B w b A ({ s with has := s.has ++ [n] }, 1, 0) = D at *
  clear hb1 hr hL hA hC HS
  generalize tot s.has = T at *
  go_wp2_with (at_builtin; refine wpList_append_eq rfl (.tmp 19) (.tmp 21) 22 22 rfl rfl rfl (HR.out _) ?_)
  exact HZ.out

set_option maxRecDepth 100000 in
set_option maxHeartbeats 4000000 in
theorem in_any {B : Nat} {w : World} {b : Nat} {s : Qu} {A : Option Addr} {cap : Nat} (h : LineAt B w b s A cap) (ok : s.Ok) (hB : B ≤ w.heap.size) (n : Int) :
    Calls Try.prog 26 #[.pointer (some ⟨b, 0, none⟩), .int .i64 n] w (Done B w b A (s.put n)) := by
  have H1 := Lib.hid (fun w => wrongSize_eq n w)
  cases hn : bad n with
  | true =>
    have hp : s.put n = (s, 0, 2) := by unfold Qu.put; rw [if_pos hn]
    rw [hp]
    have HZ : Hid (Done B w b A (s, 0, 2) (.returned (.tuple #[.int .i64 0, .int .i64 2])) w) := Lib.hid ⟨rfl, A, cap, h, fun k hk => .inl hk, Chg.refl _ _⟩
    generalize Done B w b A (s, 0, 2) = D at *
    rw [hn] at H1
    clear h ok hB hp hn
    go_enter Try.func26, Try.ntmps26
    go_wp2_with fail
    refine (H1.out _).mono ?_
    rintro e w1 ⟨rfl, rfl⟩
    go_wp2_with fail
    exact HZ.out
  | false =>
    cases hfit : s.fits n with
    | true =>
      have hp : s.put n = ({ s with has := s.has ++ [n] }, 1, 0) := by unfold Qu.put; rw [if_neg (by rw [hn]; decide), if_pos hfit]
      rw [hp]
      exact in_fits h ok hB hn hfit
    | false =>
      have H2 := Lib.hid (fits_any h ok hn)
      rw [hn] at H1
      rw [hfit] at H2
      have HD : Hid (∀ k, Calls Try.prog 30 #[.pointer (some ⟨b, 0, none⟩)] (w.drewN k) fun e w' => e = .returned (.int .i64 (dropE s)) ∧ dropW (w.drewN k) b s = w') := Lib.hid (fun k => by
        have h' : LineAt B (w.drewN k) b s A cap := ⟨h.row, h.fifo.below ⟨rfl, rfl, rfl, Nat.le_refl _, fun _ _ => rfl⟩, h.nab⟩
        exact drop_any h' ok)
      have HZ : Hid (∀ k, Done B w b A (s.put n) (.returned (.tuple #[.int .i64 0, .int .i64 (dropE s)])) (dropW (w.drewN k) b s)) := Lib.hid (fun k => by
        have h' : LineAt B (w.drewN k) b s A cap := ⟨h.row, h.fifo.below ⟨rfl, rfl, rfl, Nat.le_refl _, fun _ _ => rfl⟩, h.nab⟩
        have h0 : Chg (fun i => i = b ∨ Ab A i) w (w.drewN k) := (Chg.refl _ w).drewN k
        unfold Qu.put dropE dropW
        rw [if_neg (by rw [hn]; decide), if_neg (by rw [hfit]; decide)]
        by_cases c : s.dr = 1099511627776
        · rw [if_pos c, if_pos c, if_pos c]
          exact ⟨rfl, A, cap, h', fun k hk => .inl hk, h0⟩
        · rw [if_neg c, if_neg c, if_neg c]
          have hchg : Chg (fun i => i = b) (w.drewN k) ((w.drewN k).setCell ⟨b, 3, none⟩ (.int .i64 (s.dr + 1))) := (Chg.refl (fun i => i = b) (w.drewN k)).set (p := ⟨b, 3, none⟩) (Or.inl rfl) _
          refine ⟨rfl, A, cap, ⟨(h'.row.set 3 _).congr (fun i hi => ?_), h'.fifo.chg hchg (fun g hg e => h.nab (e ▸ hg)), h.nab⟩, fun k hk => .inl hk, h0.trans (hchg.mono (fun k _ e => .inl e))⟩
          unfold five
          rcases (by omega : i = 0 ∨ i = 1 ∨ i = 2 ∨ i = 3 ∨ i = 4) with rfl | rfl | rfl | rfl | rfl <;> simp)
      generalize Done B w b A (s.put n) = D at *
      clear h ok hB hn hfit
      generalize dropE s = E at *
      go_enter Try.func26, Try.ntmps26
      go_wp2_with fail
      refine (H1.out _).mono ?_
      rintro e w1 ⟨rfl, rfl⟩
      go_wp2_with fail
      refine H2.out.mono ?_
      rintro e w1 ⟨rfl, k, rfl⟩
      go_wp2_with fail
      refine (HD.out k).mono ?_
      rintro e w1 ⟨rfl, rfl⟩
      go_wp2_with fail
      exact HZ.out k

set_option maxRecDepth 100000 in
set_option maxHeartbeats 4000000 in
theorem perform_any {B : Nat} {w : World} {b : Nat} {s : Qu} {A : Option Addr} {cap : Nat} (h : LineAt B w b s A cap) (ok : s.Ok) (hB : B ≤ w.heap.size) (k n : Int) :
    Calls Try.prog 20 #[.pointer (some ⟨b, 0, none⟩), .agg #[.int .i64 k, .int .i64 n]] w (Done B w b A (s.act k n)) := by
  have hb1 : Below w.heap.size w (w.alloc (.cells #[.int .i64 k, .int .i64 n] 26)) := (Below.refl w.heap.size w).alloc (Nat.le_refl _) _
  have h1 := h.below hb1
  have HB := Lib.hid hb1
  have hup : ∀ r e w', Done B (w.alloc (.cells #[.int .i64 k, .int .i64 n] 26)) b A r e w' → Done B w b A r e w' := by
    rintro r e w' ⟨h1, A', cap', h2, h3, h4⟩
    exact ⟨h1, A', cap', h2, fun k hk => (h3 k hk).imp id (fun h => Nat.le_trans hb1.size h), (Chg.of_below hb1 _).trans h4⟩
  have HU := Lib.hid hup
  unfold Qu.act
  by_cases c1 : k = 1
  · subst c1
    rw [if_pos rfl]
    have HI := Lib.hid (in_any h1 ok (Nat.le_trans hB hb1.size) n)
    generalize s.put n = R at *
    clear h ok hB hb1 h1 hup
    go_enter Try.func20, Try.ntmps20
    go_wp2_with fail
    refine HI.out.mono ?_
    intro e w1 hd
    obtain ⟨rfl, hrest⟩ := HU.out _ _ _ hd
    have HZ : Hid (Done B w b A R (.returned (.tuple #[.int .i64 R.2.1, .int .i64 R.2.2])) w1) := Lib.hid ⟨rfl, hrest⟩
    generalize Done B w b A R = D at *
    clear hd hrest HI HU HB
    go_wp2_with fail
    exact HZ.out
  · rw [if_neg c1]
    have c1' : (k == 1) = false := by simpa using c1
    by_cases c2 : k = 2
    · subst c2
      rw [if_pos rfl]
      have HI := Lib.hid (out_any h1 ok)
      generalize s.get = R at *
      clear h ok hB hb1 h1 hup c1 c1'
      go_enter Try.func20, Try.ntmps20
      go_wp2_with fail
      refine HI.out.mono ?_
      intro e w1 hd
      obtain ⟨rfl, hrest⟩ := HU.out _ _ _ hd
      have HZ : Hid (Done B w b A R (.returned (.tuple #[.int .i64 R.2.1, .int .i64 R.2.2])) w1) := Lib.hid ⟨rfl, hrest⟩
      generalize Done B w b A R = D at *
      clear hd hrest HI HU HB
      go_wp2_with fail
      exact HZ.out
    · rw [if_neg c2]
      have c2' : (k == 2) = false := by simpa using c2
      have HZ : Hid (Done B w b A (s, 0, 5) (.returned (.tuple #[.int .i64 0, .int .i64 5])) (w.alloc (.cells #[.int .i64 k, .int .i64 n] 26))) := Lib.hid (hup _ _ _ ⟨rfl, A, cap, h1, fun k hk => .inl hk, Chg.refl _ _⟩)
      generalize Done B w b A (s, 0, 5) = D at *
      clear h ok hB hb1 h1 hup c1 c2 HU HB
      go_enter Try.func20, Try.ntmps20
      go_wp2_with fail
      exact HZ.out
end Go.Proofs.Ythjnjfolbhhpnaa
