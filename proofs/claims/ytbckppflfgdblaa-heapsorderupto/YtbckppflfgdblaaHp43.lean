/- HeapsOrder's round: the append and the insertion, in whichever order they are made. -/
import Derived.Test.YtbckppflfgdblaaHp42
namespace Go.Proofs.Ytbckppflfgdblaa
open Go.RowKit Go.Maps

theorem rev_succ (ks : List (Int × Int)) (i : Nat) : (pushOps ks (i + 1)).reverse = pushOp ks i :: (pushOps ks i).reverse := by rw [pushOps_succ]; simp
theorem half2 {w W : World} {ks : List (Int × Int)} {i bl : Nat} {a b : Value} (h : AB w ks i a b W) (hn : i + 1 ≤ 2000000) (hbl : W.heap[bl]? = some (.cells (opCells [pushOp ks i]).toArray 37 (0, 0))) (hne : b.ownBlock ≠ some bl) :
    Calls Try.prog 22 #[b, .int .i64 0, .slice (some ⟨bl, 0, none⟩) 1 1] W fun e W' => ∃ b', e = .returned b' ∧ Half2 w ks i a b' W' ∧ Chg (fun k => b.ownBlock = some k) W W' := by
  have hl := pushOps_length ks i
  refine (ins_ops h.own2 (fun e => h.nil (by have := congrArg List.length e; simp [hl] at this; exact this)) h.below.size (by rw [List.length_reverse, hl]; omega) hbl hne).mono ?_
  rintro e W' ⟨b', rfl, h1, h2, h3⟩
  refine ⟨b', rfl, ⟨h.own1.chg h2 (fun k hk e => h.apart k hk e), by rw [rev_succ]; exact h1, fun g hg e => ?_, h.below.trans (h2.below h.below.size (fun k hk => (World.ownsRow.lt h.own2 k hk).1))⟩, h2⟩
  rcases h3 g e with h3 | h3
  · exact h.apart g hg h3
  · have := (World.ownsRow.lt h.own1 g hg).2; omega
/-- .. and the other half. -/
theorem half1_ins {w W : World} {ks : List (Int × Int)} {i bl : Nat} {a b : Value} (h : Half1 w ks i a b W) (hn : i + 1 ≤ 2000000) (hbl : W.heap[bl]? = some (.cells (opCells [pushOp ks i]).toArray 37 (0, 0))) (hne : b.ownBlock ≠ some bl) :
    Calls Try.prog 22 #[b, .int .i64 0, .slice (some ⟨bl, 0, none⟩) 1 1] W fun e W' => ∃ b', e = .returned b' ∧ Hid (AB w ks (i + 1) a b' W') := by
  have hl := pushOps_length ks i
  refine (ins_ops h.own2 (fun e => h.nil (by have := congrArg List.length e; simp [hl] at this; exact this)) h.below.size (by rw [List.length_reverse, hl]; omega) hbl hne).mono ?_
  rintro e W' ⟨b', rfl, h1, h2, h3⟩
  refine ⟨b', rfl, Lib.hid ⟨h.own1.chg h2 (fun k hk e => h.apart k hk e), by rw [rev_succ]; exact h1, fun g hg e => ?_, fun e => (by omega), h.below.trans (h2.below h.below.size (fun k hk => (World.ownsRow.lt h.own2 k hk).1))⟩⟩
  rcases h3 g e with h3 | h3
  · exact h.apart g hg h3
  · have := (World.ownsRow.lt h.own1 g hg).2; omega
theorem half2_app {w W : World} {ks : List (Int × Int)} {i bl : Nat} {a b : Value} (h : Half2 w ks i a b W) (hn : i + 1 ≤ 2000000) (hbl : W.heap[bl]? = some (.cells (opCells [pushOp ks i]).toArray 37 (0, 0))) :
    ∃ g cap W2, (Builtin.append_ #[22, 22] 22 #[a, .slice (some ⟨bl, 0, none⟩) 1 1]).run Try.prog W = .ok (.slice (some ⟨g, 0, none⟩) (i + 1) cap) W2 ∧ Hid (AB w ks (i + 1) (.slice (some ⟨g, 0, none⟩) (i + 1) cap) b W2) := by
  have hl := pushOps_length ks i
  obtain ⟨g, cap, W2, hr, h1, h2, h3⟩ := app_ops h.own1 h.below.size (by omega) hbl
  rw [hl] at hr h1
  refine ⟨g, cap, W2, hr, Lib.hid ⟨by rw [pushOps_succ]; exact h1, h.own2.chg h2 (fun k hk e => h.apart k e hk), fun k hk e => ?_, fun e => (by omega), h.below.trans (h2.below h.below.size (fun k hk => (World.ownsRow.lt h.own1 k hk).1))⟩⟩
  simp only [Value.ownBlock, Option.some.injEq] at hk
  subst hk
  rcases h3 with h3 | h3
  · exact h.apart _ h3 e
  · have := (World.ownsRow.lt h.own2 _ e).2; omega

theorem Half1.alloc {w W : World} {ks : List (Int × Int)} {i : Nat} {a b : Value} (h : Half1 w ks i a b W) (o : Obj) : Half1 w ks i a b (W.alloc o) := by
  have hb : Below W.heap.size W (W.alloc o) := (Below.refl _ _).alloc (Nat.le_refl _) o
  exact ⟨h.own1.below hb, h.own2.below hb, h.apart, h.nil, h.below.trans (hb.mono h.below.size)⟩
theorem Half2.alloc {w W : World} {ks : List (Int × Int)} {i : Nat} {a b : Value} (h : Half2 w ks i a b W) (o : Obj) : Half2 w ks i a b (W.alloc o) := by
  have hb : Below W.heap.size W (W.alloc o) := (Below.refl _ _).alloc (Nat.le_refl _) o
  exact ⟨h.own1.below hb, h.own2.below hb, h.apart, h.below.trans (hb.mono h.below.size)⟩
theorem not_own_new {B : Nat} {w : World} {v : Value} {os : List Op4} (h : OwnOps B w v os) : ∀ k, w.heap.size ≤ k → v.ownBlock ≠ some k := fun k hk e => by have := (World.ownsRow.lt h k e).2; omega

/-- What the region of a round meets: V holds the round's variables; c: the operation's cells. -/
structure Ways (w : World) (ks : List (Int × Int)) (i : Nat) (a b : Value) (c : Array Value) (V : World) : Prop where
  /-- the append first, with its own operation alone laid; then the other is laid, and inserted -/
  a1 : ∃ g cap W, (Builtin.append_ #[22, 22] 22 #[a, .slice (some ⟨V.heap.size, 0, none⟩) 1 1]).run Try.prog (V.alloc (.cells c 37)).drew = .ok (.slice (some ⟨g, 0, none⟩) (i + 1) cap) W ∧ Below V.heap.size V V ∧
    (∀ ad v, V.cell? ad = some v → ad.block < V.heap.size → a.ownBlock ≠ some ad.block → W.cell? ad = some v) ∧
    Hid (Calls Try.prog 22 #[b, .int .i64 0, .slice (some ⟨W.heap.size, 0, none⟩) 1 1] (W.alloc (.cells c 37)) fun e W' => ∃ b', e = .returned b' ∧ Hid (AB w ks (i + 1) (.slice (some ⟨g, 0, none⟩) (i + 1) cap) b' W'))
  /-- both are laid, then the append (of the one that lies at bl), then the insertion of the other -/
  a2 : ∀ bl bl', (bl = V.heap.size ∧ bl' = V.heap.size + 1) ∨ (bl' = V.heap.size ∧ bl = V.heap.size + 1) → ∃ g cap W, (Builtin.append_ #[22, 22] 22 #[a, .slice (some ⟨bl, 0, none⟩) 1 1]).run Try.prog ((V.alloc (.cells c 37)).alloc (.cells c 37)).drew = .ok (.slice (some ⟨g, 0, none⟩) (i + 1) cap) W ∧
    Hid (Calls Try.prog 22 #[b, .int .i64 0, .slice (some ⟨bl', 0, none⟩) 1 1] W fun e W' => ∃ b', e = .returned b' ∧ Hid (AB w ks (i + 1) (.slice (some ⟨g, 0, none⟩) (i + 1) cap) b' W'))
  /-- the insertion first -/
  i1 : Calls Try.prog 22 #[b, .int .i64 0, .slice (some ⟨V.heap.size, 0, none⟩) 1 1] (V.alloc (.cells c 37)).drew fun e W => ∃ b', e = .returned b' ∧
    (∀ ad v, V.cell? ad = some v → ad.block < V.heap.size → b.ownBlock ≠ some ad.block → W.cell? ad = some v) ∧
    ∃ g cap W', (Builtin.append_ #[22, 22] 22 #[a, .slice (some ⟨W.heap.size, 0, none⟩) 1 1]).run Try.prog (W.alloc (.cells c 37)) = .ok (.slice (some ⟨g, 0, none⟩) (i + 1) cap) W' ∧ Hid (AB w ks (i + 1) (.slice (some ⟨g, 0, none⟩) (i + 1) cap) b' W')
  i2 : ∀ bl bl', (bl = V.heap.size ∧ bl' = V.heap.size + 1) ∨ (bl' = V.heap.size ∧ bl = V.heap.size + 1) → Calls Try.prog 22 #[b, .int .i64 0, .slice (some ⟨bl', 0, none⟩) 1 1] ((V.alloc (.cells c 37)).alloc (.cells c 37)).drew fun e W => ∃ b', e = .returned b' ∧
    ∃ g cap W', (Builtin.append_ #[22, 22] 22 #[a, .slice (some ⟨bl, 0, none⟩) 1 1]).run Try.prog W = .ok (.slice (some ⟨g, 0, none⟩) (i + 1) cap) W' ∧ Hid (AB w ks (i + 1) (.slice (some ⟨g, 0, none⟩) (i + 1) cap) b' W')

theorem ways {w V : World} {ks : List (Int × Int)} {i : Nat} {a b : Value} {c : Array Value} (h : AB w ks i a b V) (hn : i + 1 ≤ 2000000) (hc : (opCells [pushOp ks i]).toArray = c) : Ways w ks i a b c V := by
  subst hc
  obtain ⟨O, hO⟩ : ∃ O : Obj, Obj.cells (opCells [pushOp ks i]).toArray 37 = O := ⟨_, rfl⟩
  have d1 : Below V.heap.size V (V.alloc O).drew := by
    have : Below V.heap.size V (V.alloc O) := (Below.refl _ _).alloc (Nat.le_refl _) _
    exact ⟨this.os, this.tape, this.output, this.size, this.block⟩
  have d2 : Below V.heap.size V ((V.alloc O).alloc O).drew := by
    have : Below V.heap.size V ((V.alloc O).alloc O) := ((Below.refl _ _).alloc (Nat.le_refl _) _).alloc (by simp) _
    exact ⟨this.os, this.tape, this.output, this.size, this.block⟩
  have n1 : (V.alloc O).drew.heap[V.heap.size]? = some O := heap_alloc_new V O
  have n2 : ((V.alloc O).alloc O).drew.heap[V.heap.size]? = some O := (Below.heap_alloc (V.alloc O) O _ (by simp)).trans (heap_alloc_new V O)
  have n3 : ((V.alloc O).alloc O).drew.heap[V.heap.size + 1]? = some O := by
    have := heap_alloc_new (V.alloc O) O
    rw [show (V.alloc O).heap.size = V.heap.size + 1 by simp] at this
    exact this
  have na := not_own_new h.own1
  have nb := not_own_new h.own2
  have both : ∀ bl bl', (bl = V.heap.size ∧ bl' = V.heap.size + 1) ∨ (bl' = V.heap.size ∧ bl = V.heap.size + 1) → ((V.alloc O).alloc O).drew.heap[bl]? = some O ∧ ((V.alloc O).alloc O).drew.heap[bl']? = some O ∧ a.ownBlock ≠ some bl ∧ a.ownBlock ≠ some bl' ∧ b.ownBlock ≠ some bl ∧ b.ownBlock ≠ some bl' := by
    rintro bl bl' (⟨rfl, rfl⟩ | ⟨rfl, rfl⟩)
    · exact ⟨n2, n3, na _ (by omega), na _ (by omega), nb _ (by omega), nb _ (by omega)⟩
    · exact ⟨n3, n2, na _ (by omega), na _ (by omega), nb _ (by omega), nb _ (by omega)⟩
  have keep : ∀ {W W' : World} {S : Nat → Prop}, Below V.heap.size V W → Chg S W W' → ∀ (ad : Addr) v, V.cell? ad = some v → ad.block < V.heap.size → ¬ S ad.block → W'.cell? ad = some v := fun hb hc ad v hv hlt hs => by
    rw [World.cell?_of_block (hc.block ad.block (Nat.lt_of_lt_of_le hlt hb.size) hs), hb.cell hlt]; exact hv
  refine ⟨?_, fun bl bl' hbb => ?_, ?_, fun bl bl' hbb => ?_⟩
  · rw [hO]
    obtain ⟨g, cap, W, hr, h1, h2⟩ := half1 (h.next d1) hn (by rw [n1, ← hO])
    refine ⟨g, cap, W, hr, Below.refl _ _, fun ad v hv hlt hs => keep d1 h2 ad v hv hlt hs, Lib.hid ?_⟩
    have hh := h1.alloc O
    exact half1_ins hh hn (by rw [heap_alloc_new W O, ← hO]) (not_own_new h1.own2 _ (Nat.le_refl _))
  · rw [hO]
    obtain ⟨m1, m2, m3, m4, m5, m6⟩ := both bl bl' hbb
    obtain ⟨g, cap, W, hr, h1, h2⟩ := half1 (h.next d2) hn (by rw [m1, ← hO])
    refine ⟨g, cap, W, hr, Lib.hid (half1_ins h1 hn ?_ m6)⟩
    rw [h2.block bl' (block_lt m2) m4, m2, ← hO]
  · rw [hO]
    refine (half2 (h.next d1) hn (by rw [n1, ← hO]) (nb _ (Nat.le_refl _))).mono ?_
    rintro e W ⟨b', rfl, h1, h2⟩
    refine ⟨b', rfl, fun ad v hv hlt hs => keep d1 h2 ad v hv hlt hs, ?_⟩
    exact half2_app (h1.alloc O) hn (by rw [heap_alloc_new W O, ← hO])
  · rw [hO]
    obtain ⟨m1, m2, m3, m4, m5, m6⟩ := both bl bl' hbb
    refine (half2 (h.next d2) hn (by rw [m2, ← hO]) m6).mono ?_
    rintro e W ⟨b', rfl, h1, h2⟩
    exact ⟨b', rfl, half2_app h1 hn (by rw [h2.block bl (block_lt m1) m5, m1, ← hO])⟩

end Go.Proofs.Ytbckppflfgdblaa
