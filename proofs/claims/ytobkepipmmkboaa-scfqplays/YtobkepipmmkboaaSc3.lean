/- Package scfq: what of the link turns. -/
import Derived.Test.YtobkepipmmkboaaSc2
namespace Go.Proofs.Ytobkepipmmkboaa
open Go.RowKit Go.Maps
namespace Lk
variable {w wr W : World} {lb fb eb n : Nat} {o : Obj} {xs : List Int} {S : List (Nat × Int)} {s : Sc} {v : Value} {Aq : Nat → Option Addr} {cq : Nat → Nat}
/-- The last tag of a flow is put. -/
theorem putLast (h : Lk w wr lb fb eb o n xs S s v Aq cq) (k : Nat) (y : Int) : Lk w (wr.setCell ⟨fb, k * 3 + 1, none⟩ (.int .i64 y)) lb fb eb o n xs S ⟨s.tm, fun i => if i = k then y else s.last i, s.q⟩ v Aq cq :=
  h.put (p := ⟨fb, k * 3 + 1, none⟩) (.inr rfl) _ rfl (h.row.of_block (Below.heap_setCell wr ⟨fb, k * 3 + 1, none⟩ _ lb h.far.2.2.1)) ((h.flows.set (k * 3 + 1) _).congr fun j _ => flc_set1 _ _ _ k y j)
/-- The weight of a flow is put. -/
theorem putWeight (h : Lk w wr lb fb eb o n xs S s v Aq cq) (k : Nat) (y : Int) {xs' : List Int} (e : ∀ i, fn xs' i = if i = k then y else fn xs i) : Lk w (wr.setCell ⟨fb, k * 3, none⟩ (.int .i64 y)) lb fb eb o n xs' S s v Aq cq :=
  h.put (p := ⟨fb, k * 3, none⟩) (.inr rfl) _ rfl (h.row.of_block (Below.heap_setCell wr ⟨fb, k * 3, none⟩ _ lb h.far.2.2.1)) ((h.flows.set (k * 3) _).congr fun j _ => by
    rw [flc_set0]
    congr 1
    funext i
    exact (e i).symm)
/-- The time is put. -/
theorem putNow (h : Lk w wr lb fb eb o n xs S s v Aq cq) (y : Int) : Lk w (wr.setCell ⟨lb, 0, none⟩ (.int .i64 y)) lb fb eb o n xs S ⟨y, s.last, s.q⟩ v Aq cq :=
  h.put (p := ⟨lb, 0, none⟩) (.inl rfl) _ rfl ((h.row.set 0 _).congr fun j _ => by
    unfold three
    by_cases c : j = 0
    · rw [if_pos c, if_pos c]
    · rw [if_neg c, if_neg c, if_neg c]) (h.flows.of_block (Below.heap_setCell wr ⟨lb, 0, none⟩ _ fb (fun e => h.far.2.2.1 e.symm)))
/-- Who waits of a flow turns. -/
theorem putQ (h : Lk w wr lb fb eb o n xs S s v Aq cq) {k : Nat} (hk : k < n) {q : List (Int × Int)} {A : Option Addr} {c m : Nat} (hm : q.length = m) (hc : Chg (Ab (Aq k)) wr W) (hf : FifoC 69 2 w.heap.size W A m (prs q) c) (hab : ∀ g, Ab A g → Ab (Aq k) g ∨ wr.heap.size ≤ g) :
    W.cell? ⟨fb, k * 3 + 2, none⟩ = some (.slice (Aq k) (s.q k).length (cq k)) ∧ W.frozen? ⟨fb, k * 3 + 2, none⟩ = false ∧
    Lk w (W.setCell ⟨fb, k * 3 + 2, none⟩ (.slice A m c)) lb fb eb o n xs S ⟨s.tm, s.last, fun i => if i = k then q else s.q i⟩ v (fun i => if i = k then A else Aq i) (fun i => if i = k then c else cq i) := by
  subst hm
  obtain ⟨hfk, hnk, hdk⟩ := h.own k hk
  have hl := h.row.lt
  have hfl := h.flows.lt
  have hel := h.elt
  have hvl : ∀ g, v.ownBlock = some g → g < wr.heap.size := fun g hg => (World.ownsRow.lt h.sent g hg).2
  obtain ⟨g1, g2, g3, g4, g5⟩ := h.far
  have hrow := h.row.of_block (hc.block lb hl fun e => (hnk lb e).1 rfl)
  have hflows := h.flows.of_block (hc.block fb hfl fun e => (hnk fb e).2.1 rfl)
  obtain ⟨hsz, hbl⟩ := frame (wr := W) ⟨fb, k * 3 + 2, none⟩ (.slice A q.length c)
  have hA : ∀ g, Ab A g → g ≠ lb ∧ g ≠ fb ∧ g ≠ eb ∧ v.ownBlock ≠ some g := fun g hg => by
    rcases hab g hg with e | e
    · exact hnk g e
    · exact ⟨by omega, by omega, by omega, fun hv => by have := hvl g hv; omega⟩
  have hbw : Below w.heap.size w W := h.below.trans (hc.below h.below.size fun g hg => (hfk.ab g hg).1)
  refine ⟨by rw [hflows.cell (by omega), flc2], hflows.frozen _, hbw.setCell (p := ⟨fb, k * 3 + 2, none⟩) g2 _, h.far, (hbl eb g5).trans ((hc.block eb hel fun e => (hnk eb e).2.2.1 rfl).trans h.er), hrow.of_block (hbl lb g3), own_block h.sent (fun g hg => (hbl g (h.sab g hg).2.1).trans (hc.block g (hvl g hg) fun e => (hnk g e).2.2.2 hg)), h.sab, (hflows.set (k * 3 + 2) _).congr fun j _ => ?_, fun j hj => ?_⟩
  · rw [flc_set2]
    congr 1
    funext i
    dsimp only
    by_cases e : i = k
    · rw [if_pos e, if_pos e, if_pos e, if_pos e]
    · rw [if_neg e, if_neg e, if_neg e, if_neg e]
  · dsimp only
    by_cases e : j = k
    · rw [if_pos e, if_pos e, if_pos e]
      refine ⟨hf.of_blocks hsz fun g hg _ => hbl g (hA g hg).2.1, hA, fun i hi hij g hg h1 => ?_⟩
      subst e
      rw [if_neg hij] at hg
      rcases hab g h1 with h2 | h2
      · exact hdk i hi hij g hg h2
      · have := ((h.own i hi).1.ab g hg).2
        omega
    · rw [if_neg e, if_neg e, if_neg e]
      obtain ⟨oj, nj, dj⟩ := h.own j hj
      refine ⟨(oj.chg hc fun g hg hg2 => dj k hk (fun e' => e e'.symm) g hg2 hg).of_blocks hsz fun g hg _ => hbl g (nj g hg).2.1, nj, fun i hi hij g hg h1 => ?_⟩
      by_cases ei : i = k
      · rw [if_pos ei] at hg
        rcases hab g hg with h2 | h2
        · exact dj k hk (fun e' => e e'.symm) g h2 h1
        · have := (oj.ab g h1).2
          omega
      · rw [if_neg ei] at hg
        exact dj i hi hij g hg h1
/-- A packet comes to those that wait. -/
theorem pushQ (h : Lk w wr lb fb eb o n xs S s v Aq cq) {k : Nat} (hk : k < n) (b g : Int) (hn : (s.q k).length ≤ 100000) :
    ∃ A c W, (∀ ty, (Builtin.append_ #[58, 58] ty #[.slice (Aq k) (s.q k).length (cq k), .slice (some ⟨wr.heap.size, 0, none⟩) 1 1]).run Try.prog (wr.alloc (.cells #[.int .i64 b, .int .i64 g] 69)) = .ok (.slice A ((s.q k).length + 1) c) W) ∧
      W.cell? ⟨fb, k * 3 + 2, none⟩ = some (.slice (Aq k) (s.q k).length (cq k)) ∧ W.frozen? ⟨fb, k * 3 + 2, none⟩ = false ∧
      Lk w (W.setCell ⟨fb, k * 3 + 2, none⟩ (.slice A ((s.q k).length + 1) c)) lb fb eb o n xs S ⟨s.tm, s.last, fun i => if i = k then s.q k ++ [(b, g)] else s.q i⟩ v (fun i => if i = k then A else Aq i) (fun i => if i = k then c else cq i) := by
  obtain ⟨hfk, hnk, hdk⟩ := h.own k hk
  obtain ⟨A, c, W, hr, hf, hc, hab⟩ := fc_one tc_packet hfk (xs := [.int .i64 b, .int .i64 g]) rfl (fun u hu => by
    simp only [List.mem_cons, List.not_mem_nil, or_false] at hu
    rcases hu with rfl | rfl <;> rfl) h.below.size (by simp only [maxLen]; omega) (by omega)
  rw [show prs (s.q k) ++ [.int .i64 b, .int .i64 g] = prs (s.q k ++ [(b, g)]) by rw [prs_append]; rfl] at hf
  obtain ⟨k1, k2, k3⟩ := h.putQ hk (q := s.q k ++ [(b, g)]) (by simp) hc hf hab
  exact ⟨A, c, W, hr, k1, k2, k3⟩
/-- The first one that waits goes. -/
theorem popQ (h : Lk w wr lb fb eb o n xs S s v Aq cq) {k : Nat} (hk : k < n) {b g : Int} {r : List (Int × Int)} (hq : s.q k = (b, g) :: r) :
    ∃ gb off A c, Aq k = some ⟨gb, off, none⟩ ∧ wr.cell? ⟨gb, off, none⟩ = some (.int .i64 b) ∧ wr.cell? ⟨gb, off + 1, none⟩ = some (.int .i64 g) ∧
      (∀ W : World, (Instr.slice 58 (.slice (some ⟨gb, off, none⟩) (r.length + 1) (cq k)) (some (.int .i64 1)) none none).run Try.prog W = .ok (.slice A r.length c) W) ∧
      Lk w (wr.setCell ⟨fb, k * 3 + 2, none⟩ (.slice A r.length c)) lb fb eb o n xs S ⟨s.tm, s.last, fun i => if i = k then r else s.q i⟩ v (fun i => if i = k then A else Aq i) (fun i => if i = k then c else cq i) := by
  obtain ⟨hfk, hnk, hdk⟩ := h.own k hk
  rw [hq, prs_cons, List.length_cons] at hfk
  obtain ⟨gb, off, A, c, e, hc, hr, hf, hab⟩ := hfk.tail_run tc_packet rfl
  obtain ⟨k1, k2, k3⟩ := h.putQ hk (q := r) rfl (Chg.refl _ wr) hf fun g hg => .inl (hab g hg)
  exact ⟨gb, off, A, c, e, hc 0 _ rfl, hc 1 _ rfl, hr, k3⟩
/-- A packet is sent. -/
theorem pushS (h : Lk w wr lb fb eb o n xs S s v Aq cq) (k : Nat) (b : Int) (hn : S.length ≤ 100000) :
    ∃ Av nv cv W, (∀ ty, (Builtin.append_ #[25, 25] ty #[v, .slice (some ⟨wr.heap.size, 0, none⟩) 1 1]).run Try.prog (wr.alloc (.cells #[.int .i64 (k : Int), .int .i64 b] 35)) = .ok (.slice Av nv cv) W) ∧
      W.cell? ⟨lb, 2, none⟩ = some v ∧ W.frozen? ⟨lb, 2, none⟩ = false ∧
      Lk w (W.setCell ⟨lb, 2, none⟩ (.slice Av nv cv)) lb fb eb o n xs (S ++ [(k, b)]) s (.slice Av nv cv) Aq cq ∧ (∀ g, g < wr.heap.size → v.ownBlock ≠ some g → g ≠ lb → (W.setCell ⟨lb, 2, none⟩ (.slice Av nv cv)).heap[g]? = wr.heap[g]?) := by
  obtain ⟨v', W, hr, ho, hg⟩ := own_one el_sent h.sent (xs := [.int .i64 (k : Int), .int .i64 b]) rfl (fun u hu => by
    simp only [List.mem_cons, List.not_mem_nil, or_false] at hu
    rcases hu with rfl | rfl <;> rfl) (by simp only [maxLen]; omega) (by omega) h.below.size
  have ho : OwnS w.heap.size W v' (S ++ [(k, b)]) := by
    unfold OwnS
    rw [sns_append, List.length_append]
    exact ho
  obtain ⟨Av, cv, ev, -⟩ := ho.form
  generalize (S ++ [(k, b)]).length = nv at ev
  subst ev
  have hl := h.row.lt
  have hfl := h.flows.lt
  have hel := h.elt
  obtain ⟨g1, g2, g3, g4, g5⟩ := h.far
  have hsl : v.ownBlock ≠ some lb := fun e => (h.sab lb e).1 rfl
  have hsf : v.ownBlock ≠ some fb := fun e => (h.sab fb e).2.1 rfl
  have hse : v.ownBlock ≠ some eb := fun e => (h.sab eb e).2.2 rfl
  have hrow := h.row.of_block (hg.rest lb hl hsl)
  have hflows := h.flows.of_block (hg.rest fb hfl hsf)
  obtain ⟨hsz, hbl⟩ := frame (wr := W) ⟨lb, 2, none⟩ (.slice Av nv cv)
  have hv' : ∀ g, (Value.slice Av nv cv).ownBlock = some g → g ≠ lb ∧ g ≠ fb ∧ g ≠ eb := fun g hgv => by
    rcases hg.own g hgv with e | e
    · exact h.sab g e
    · exact ⟨by omega, by omega, by omega⟩
  refine ⟨Av, nv, cv, W, hr, hrow.cell (by omega), hrow.frozen _, ⟨(h.below.trans hg.below).setCell (p := ⟨lb, 2, none⟩) g1 _, h.far, (hbl eb g4).trans ((hg.rest eb hel hse).trans h.er), (hrow.set 2 _).congr fun j hj => ?_, own_block ho fun g hgv => hbl g (hv' g hgv).1, hv', hflows.of_block (hbl fb (fun e => g3 e.symm)), fun j hj => ?_⟩, fun g h1 h2 h3 => (hbl g h3).trans (hg.rest g h1 h2)⟩
  · unfold three
    rcases (by omega : j = 0 ∨ j = 1 ∨ j = 2) with rfl | rfl | rfl <;> rfl
  · obtain ⟨oj, nj, dj⟩ := h.own j hj
    refine ⟨oj.of_blocks (Nat.le_trans hg.size hsz) fun g hga hgl => (hbl g (nj g hga).1).trans (hg.rest g hgl (nj g hga).2.2.2), fun g hga => ⟨(nj g hga).1, (nj g hga).2.1, (nj g hga).2.2.1, fun hgv => ?_⟩, dj⟩
    rcases hg.own g hgv with e | e
    · exact (nj g hga).2.2.2 e
    · have := (oj.ab g hga).2
      omega
/-- What lies beside the link turns. -/
theorem putE (h : Lk w wr lb fb eb o n xs S s v Aq cq) (i : Nat) (x : Value) {o' : Obj} (hb : w.heap.size ≤ eb) (ho : (wr.setCell ⟨eb, i, none⟩ x).heap[eb]? = some o') : Lk w (wr.setCell ⟨eb, i, none⟩ x) lb fb eb o' n xs S s v Aq cq := by
  obtain ⟨hsz, hbl⟩ := frame (wr := wr) ⟨eb, i, none⟩ x
  obtain ⟨g1, g2, g3, g4, g5⟩ := h.far
  exact ⟨h.below.setCell (p := ⟨eb, i, none⟩) hb _, h.far, ho, h.row.of_block (hbl lb (fun e => g4 e.symm)), own_block h.sent fun g hg => hbl g (h.sab g hg).2.2, h.sab, h.flows.of_block (hbl fb (fun e => g5 e.symm)), fun k hk => ⟨(h.own k hk).1.of_blocks hsz fun g hg _ => hbl g ((h.own k hk).2.1 g hg).2.2.1, (h.own k hk).2⟩⟩
end Lk
/-- A link, wherever its parts lie. -/
def LkE (w wr : World) (lb fb eb : Nat) (o : Obj) (n : Nat) (xs : List Int) (S : List (Nat × Int)) (s : Sc) : Prop := ∃ v Aq cq, Lk w wr lb fb eb o n xs S s v Aq cq
end Go.Proofs.Ytobkepipmmkboaa
