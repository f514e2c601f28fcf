/- A list of prefixes that lies in memory, and the trie built of it. -/
import Derived.Test.YtcadjgmglaimdaaTr5
namespace Go.Proofs.Ytcadjgmglaimdaa
open Go.RowKit Go.Maps

def PfAt (w : World) (b o : Nat) (p : Pf) : Prop := w.cell? ⟨b, o, none⟩ = some (.int .u8 p.ad.a0) ∧ w.cell? ⟨b, o + 1, none⟩ = some (.int .u8 p.ad.a1) ∧ w.cell? ⟨b, o + 2, none⟩ = some (.int .u8 p.ad.a2) ∧ w.cell? ⟨b, o + 3, none⟩ = some (.int .u8 p.ad.a3) ∧ w.cell? ⟨b, o + 4, none⟩ = some (.int .i64 p.bits) ∧ w.cell? ⟨b, o + 5, none⟩ = some (.int .i64 p.led)
structure PfsIn (w : World) (A : Option Addr) (ps : List Pf) : Prop where
  at_ : 0 < ps.length → ∃ b off, A = some ⟨b, off, none⟩ ∧ b < w.heap.size ∧ ∀ j p, ps[j]? = some p → PfAt w b (off + j * 6) p
  ok : ∀ p ∈ ps, p.ad.Ok
  len : ps.length * 24 ≤ 281474976710656
theorem PfAt.below {B : Nat} {w w' : World} {b o : Nat} {p : Pf} (h : PfAt w b o p) (hb : Below B w w') (hl : b < B) : PfAt w' b o p := by
  obtain ⟨h0, h1, h2, h3, h4, h5⟩ := h
  have key : ∀ i, w'.cell? ⟨b, i, none⟩ = w.cell? ⟨b, i, none⟩ := fun i => hb.cell (p := ⟨b, i, none⟩) hl
  exact ⟨(key _).trans h0, (key _).trans h1, (key _).trans h2, (key _).trans h3, (key _).trans h4, (key _).trans h5⟩
theorem PfsIn.below {w w' : World} {A : Option Addr} {ps : List Pf} (h : PfsIn w A ps) (hb : Below w.heap.size w w') : PfsIn w' A ps := by
  refine ⟨fun h0 => ?_, h.ok, h.len⟩
  obtain ⟨b, off, e, hl, hc⟩ := h.at_ h0
  exact ⟨b, off, e, Nat.lt_of_lt_of_le hl hb.size, fun j p hp => (hc j p hp).below hb hl⟩
theorem PfsIn.next {w : World} {A : Option Addr} {ps : List Pf} (h : PfsIn w A ps) {i : Nat} (hi : i < ps.length) : ∃ b off p, A = some ⟨b, off, none⟩ ∧ ps[i]? = some p ∧ PfAt w b (off + i * 6) p ∧ p.ad.Ok ∧ b < w.heap.size := by
  obtain ⟨b, off, e, hl, hc⟩ := h.at_ (by omega)
  have hx : ps[i]? = some ps[i] := List.getElem?_eq_getElem hi
  exact ⟨b, off, _, e, hx, hc i _ hx, h.ok _ (List.getElem_mem hi), hl⟩

def Built (w : World) (ps : List Pf) (e : Ending) (w' : World) : Prop :=
  Below w.heap.size w w' ∧ ((wrong ps ≠ 0 ∧ e = .returned (.tuple #[.pointer none, .int .i64 (wrong ps)])) ∨ (wrong ps = 0 ∧ ∃ q ns, e = .returned (.tuple #[.pointer (some ⟨q, 0, none⟩), .int .i64 0]) ∧ TrieAt w.heap.size w' q ns ∧ TriOk ns ps ∧ ns.length ≤ 100000))

theorem trie_start (w : World) : TrieAt w.heap.size ((w.alloc (.cells #[.int .i64 0, .int .i64 0, .bool false, .int .i64 0] 62)).alloc (.cells #[.slice (some ⟨w.heap.size, 0, none⟩) 1 1] 59)) (w.heap.size + 1) [Nd.zero] := by
  refine ⟨⟨w.heap.size, 1, ?_, ?_⟩, by omega, by decide⟩
  · have := heap_alloc_new (w.alloc (.cells #[.int .i64 0, .int .i64 0, .bool false, .int .i64 0] 62)) (.cells #[.slice (some ⟨w.heap.size, 0, none⟩) 1 1] 59)
    simpa using this
  · exact (World.ownsRow_lit w #[.int .i64 0, .int .i64 0, .bool false, .int .i64 0] 1 (Nat.le_refl _) (by decide) rfl).alloc _

theorem make_node (W : World) : (Instr.makeSlice 57 (.int .i64 1) (.int .i64 1)).run Try.prog W = .ok (.slice (some ⟨W.heap.size, 0, none⟩) 1 1) (W.alloc (.cells #[.int .i64 0, .int .i64 0, .bool false, .int .i64 0] 62)) := by
  obtain ⟨i0, hi, hz0, hz1, hz2⟩ := info_parts info_node
  have hr := run_make (P := Try.prog) W 57 62 i0 _ under_nodes hi hz0 .i64 .i64 1 1 (by omega) (by omega) (by rw [hz2]; omega) (by omega)
  have e : madeCells (Value.agg #[.int .i64 0, .int .i64 0, .bool false, .int .i64 0]).cells (Int.toNat 1 * 4) = #[.int .i64 0, .int .i64 0, .bool false, .int .i64 0] := by kernel_rfl
  rw [hr, hz1, e]
  rfl
theorem wr_bad {seen r : List Pf} {p : Pf} (h : ¬ p.val) : wr seen (p :: r) = 2 := by unfold wr; rw [if_pos h]
theorem wr_form {seen r : List Pf} {p : Pf} (h : p.val) (h2 : ¬ low p) : wr seen (p :: r) = 1 := by unfold wr; rw [if_neg (fun k => k h), if_pos h2]
theorem wr_held {seen r : List Pf} {p : Pf} (h : p.val) (h2 : low p) (h3 : ∃ q ∈ seen, same q p) : wr seen (p :: r) = 6 := by unfold wr; rw [if_neg (fun k => k h), if_neg (fun k => k h2), if_pos h3]
theorem wr_next {seen r : List Pf} {p : Pf} (h : p.val) (h2 : low p) (h3 : ¬ ∃ q ∈ seen, same q p) : wr seen (p :: r) = wr (seen ++ [p]) r := by rw [wr, if_neg (fun k => k h), if_neg (fun k => k h2), if_neg h3]
theorem drop_cons {ps : List Pf} {i : Nat} {p : Pf} (h : ps[i]? = some p) : ps.drop i = p :: ps.drop (i + 1) := by
  obtain ⟨hi, e⟩ := List.getElem?_eq_some_iff.1 h
  rw [List.drop_eq_getElem_cons hi, e]
theorem take_snoc {ps : List Pf} {i : Nat} {p : Pf} (h : ps[i]? = some p) : ps.take (i + 1) = ps.take i ++ [p] := by
  rw [List.take_add_one, h]; rfl
/-- Building under way: i prefixes are in. -/
structure BuI (w : World) (ps : List Pf) (q i : Nat) (wr' : World) : Prop where
  ex : ∃ ns, TrieAt w.heap.size wr' q ns ∧ TriOk ns (ps.take i) ∧ ns.length ≤ 1 + 32 * i
  below : Below w.heap.size w wr'
  err : wr (ps.take i) (ps.drop i) = wrong ps
  good : ∀ r ∈ ps.take i, r.val ∧ low r

theorem shl_low {p : Pf} {n : Nat} (hn : n ≤ 32) (hb : p.b = n) (_hx : p.n < 4294967296) : (p.n * 2 ^ n) % 4294967296 = 0 ↔ low p := by
  unfold low
  rw [hb]
  have e : (4294967296 : Nat) = 2 ^ (32 - n) * 2 ^ n := by rw [← Nat.pow_add, show 32 - n + n = 32 by omega]
  rw [e, Nat.mul_mod_mul_right]
  have : 0 < 2 ^ n := Nat.two_pow_pos n
  constructor
  · intro h
    rcases Nat.mul_eq_zero.1 h with h | h
    · exact h
    · omega
  · intro h; rw [h, Nat.zero_mul]

theorem shl_u32 (x b : Nat) : (IntKind.u32.wrap ((x : Int) * 2 ^ b) != 0) = decide (x * 2 ^ b % 4294967296 ≠ 0) := by
  have e : (x : Int) * 2 ^ b = ((x * 2 ^ b : Nat) : Int) := by
    simp only [Int.natCast_mul, Int.natCast_pow, Int.cast_ofNat_Int]
  rw [e]
  generalize x * 2 ^ b = y
  have e2 : IntKind.u32.wrap (y : Int) = ((y % 4294967296 : Nat) : Int) := by
    simp [IntKind.wrap, IntKind.bits, IntKind.signed]
  rw [e2]
  generalize y % 4294967296 = z
  cases z with
  | zero => rfl
  | succ z => simp; omega

set_option maxRecDepth 100000 in
set_option maxHeartbeats 4000000 in
theorem build_any {w : World} {A : Option Addr} {ps : List Pf} (h : PfsIn w A ps) {cap : Nat} (hcap : ps.length ≤ cap) :
    Calls Try.prog 22 #[.slice A ps.length cap] w (Built w ps) := by
  obtain ⟨n, hl⟩ : ∃ n, ps.length = n := ⟨_, rfl⟩
  have hlen := h.len
  rw [hl] at hlen hcap ⊢
  by_cases c : 400 < n
  · have c1 : (400 : Int) < (n : Int) := by omega
    have HF : Hid (Built w ps (.returned (.tuple #[.pointer none, .int .i64 2])) w) := Lib.hid (by
      have e : wrong ps = 2 := by unfold wrong; rw [if_pos (by omega)]
      exact ⟨Below.refl _ _, .inl ⟨by rw [e]; decide, by rw [e]⟩⟩)
    clear h
    go_enter Try.func22, Try.ntmps22
    go_wp2
    go_ret2
    exact HF.out
  · have c1 : ¬ (400 : Int) < (n : Int) := by omega
    have HS : Hid (BuI w ps (w.heap.size + 1) 0 _) := Lib.hid ⟨⟨[Nd.zero], trie_start w, tri_start, by decide⟩, ((Below.refl _ w).alloc (Nat.le_refl _) _).alloc (by simp) _, by unfold wrong; rw [if_neg (by omega)]; rfl, fun r hr => by cases hr⟩
    have HP := Lib.hid (And.intro h hl)
    clear h hl
    have hmk := make_node
    go_enter Try.func22, Try.ntmps22
    go_wp2_with fail
    go_loopg [15] n (fun k v15 wr => ∃ i : Nat, v15 = .int .i64 (i : Int) ∧ i + k = n ∧ Hid (BuI w ps (w.heap.size + 1) i wr))
    case atStart => exact ⟨0, rfl, by omega, HS⟩
    case round =>
      clear HS
      obtain ⟨i, rfl, hik, HI⟩ := hrel
      cases gk with
      | zero =>
        obtain rfl : i = n := by omega
        have HF : Hid (Built w ps (.returned (.tuple #[.pointer (some ⟨w.heap.size + 1, 0, none⟩), .int .i64 0])) wr) := Lib.hid (by
          obtain ⟨⟨ns, t1, t2, t3⟩, hb, he, _⟩ := HI.out
          have hle := HP.out.2
          rw [List.drop_eq_nil_of_le (by omega), List.take_of_length_le (by omega)] at he
          rw [List.take_of_length_le (by omega)] at t2
          exact ⟨hb, .inr ⟨he.symm.trans rfl, _, ns, rfl, t1, t2, by omega⟩⟩)
        go_wp2_with fail
        go_ret2
        exact HF.out
      | succ k =>
        have hi : i < n := by omega
        have i1 : (i : Int) < (n : Int) := by omega
        obtain ⟨bl, off, p, rfl, hp, hat, hok, _⟩ := (HP.out.1.below HI.out.below).next (i := i) (by have := HP.out.2; omega)
        have HV : Hid (∀ w, Calls Try.prog 25 #[.agg p.cells.toArray] w fun e w' => e = .returned (.bool (decide (0 ≤ p.bits ∧ p.bits ≤ 32))) ∧ Below w.heap.size w w') := Lib.hid (fun w => validBits_b p w)
        have HN : Hid (∀ w, Calls Try.prog 26 #[.agg p.ad.cells.toArray] w fun e w' => e = .returned (.int .u32 (p.n : Int)) ∧ Below w.heap.size w w') := Lib.hid (fun w => number_b p.ad hok w)
        have hx : p.n < 4294967296 := hok.lt
        have HQ : Hid (∀ W, Below wr.heap.size wr W → ∃ ns : List Nd, ns.length ≤ 1 + 32 * i ∧ (p.val → low p → Calls Try.prog 28 #[.pointer (some ⟨w.heap.size + 1, 0, none⟩), .agg p.cells.toArray] W (Added w.heap.size W (w.heap.size + 1) ns.length (ps.take i) p))) := Lib.hid (fun W hW => by
          obtain ⟨⟨ns, t1, t2, t3⟩, hb, he, hg⟩ := HI.out
          exact ⟨ns, t3, fun hv hlo => add_any (t1.below hW) (Nat.le_trans hb.size hW.size) t2 (by omega) hg hv hlo hok⟩)
        have HE1 : Hid (¬ p.val → wrong ps = 2) := Lib.hid (fun h => by rw [← HI.out.err, drop_cons hp, wr_bad h])
        have HE2 : Hid (p.val → ¬ low p → wrong ps = 1) := Lib.hid (fun h h2 => by rw [← HI.out.err, drop_cons hp, wr_form h h2])
        have HE3 : Hid (p.val → low p → (∃ r ∈ ps.take i, same r p) → wrong ps = 6) := Lib.hid (fun h h2 h3 => by rw [← HI.out.err, drop_cons hp, wr_held h h2 h3])
        have HE4 : Hid (p.val → low p → (¬ ∃ r ∈ ps.take i, same r p) → ∀ (W : World) (ns : List Nd), Below w.heap.size w W → TrieAt w.heap.size W (w.heap.size + 1) ns → TriOk ns (ps.take i ++ [p]) → ns.length ≤ 1 + 32 * (i + 1) → BuI w ps (w.heap.size + 1) (i + 1) W) := Lib.hid (fun h h2 h3 W ns k1 k2 k3 k4 => ⟨⟨ns, k2, by rw [take_snoc hp]; exact k3, k4⟩, k1, by rw [take_snoc hp, ← wr_next h h2 h3, ← drop_cons hp]; exact HI.out.err, fun r hr => by
          rw [take_snoc hp] at hr
          rcases List.mem_append.1 hr with hr | hr
          · exact HI.out.good r hr
          · obtain rfl : r = p := by simpa using hr
            exact ⟨h, h2⟩⟩)
        have HBW : Hid (∀ W, Below wr.heap.size wr W → Below w.heap.size w W) := Lib.hid (fun W hW => HI.out.below.trans (hW.mono HI.out.below.size))
        have HSL := Lib.hid (fun n (hn : n ≤ 32) (hb : p.b = n) => shl_low hn hb hx)
        obtain ⟨q0, q1, q2, q3, q4, q5⟩ := hat
        have hval : p.val ↔ (0 ≤ p.bits ∧ p.bits ≤ 32) := Iff.rfl
        have hpb : p.b = p.bits.toNat := rfl
        generalize hXX : p.n = x at *
        generalize hbe : p.b = bb at *
        generalize hVV : p.val = V at *
        generalize hLL : low p = L at *
        have HPP := Lib.hid hp
        clear hp hok
        obtain ⟨⟨a0, a1, a2, a3⟩, b, t⟩ := p
        unfold Pf.cells at HV HQ
        unfold Ad.cells at HN
        dsimp only at HV HQ HN hval hpb q0 q1 q2 q3 q4 q5
        have hw3 : Below wr.heap.size wr (wr.alloc (.cells #[.int .u8 a0, .int .u8 a1, .int .u8 a2, .int .u8 a3, .int .i64 b, .int .i64 t] 26)) := (Below.refl _ _).alloc (Nat.le_refl _) _
        have hP3 : (wr.alloc (.cells #[.int .u8 a0, .int .u8 a1, .int .u8 a2, .int .u8 a3, .int .i64 b, .int .i64 t] 26)).heap[wr.heap.size]? = some (.cells #[.int .u8 a0, .int .u8 a1, .int .u8 a2, .int .u8 a3, .int .i64 b, .int .i64 t] 26 (0, 0)) := heap_alloc_new wr _
        have hs3 : (wr.alloc (.cells #[.int .u8 a0, .int .u8 a1, .int .u8 a2, .int .u8 a3, .int .i64 b, .int .i64 t] 26)).heap.size = wr.heap.size + 1 := by simp
        have HW := Lib.hid (And.intro hw3 (And.intro hP3 hs3))
        clear hw3 hP3 hs3 HI HP
        go_upto_region 7 with fail
        generalize wr.alloc (.cells #[.int .u8 a0, .int .u8 a1, .int .u8 a2, .int .u8 a3, .int .i64 b, .int .i64 t] 26) = w3 at *
        have HS : Hid (∀ W, Below w3.heap.size w3 W → W.cell? ⟨wr.heap.size, 0, none⟩ = some (.int .u8 a0) ∧ W.cell? ⟨wr.heap.size, 1, none⟩ = some (.int .u8 a1) ∧ W.cell? ⟨wr.heap.size, 2, none⟩ = some (.int .u8 a2) ∧ W.cell? ⟨wr.heap.size, 3, none⟩ = some (.int .u8 a3) ∧ W.cell? ⟨wr.heap.size, 4, none⟩ = some (.int .i64 b) ∧ W.cell? ⟨wr.heap.size, 5, none⟩ = some (.int .i64 t)) := Lib.hid (fun W hW => by
          have e := (hW.block wr.heap.size (Array.getElem?_eq_some_iff.1 HW.out.2.1).1).trans HW.out.2.1
          exact ⟨cell_of_row _ _ 0 _ _ _ e, cell_of_row _ _ 1 _ _ _ e, cell_of_row _ _ 2 _ _ _ e, cell_of_row _ _ 3 _ _ _ e, cell_of_row _ _ 4 _ _ _ e, cell_of_row _ _ 5 _ _ _ e⟩)
        obtain ⟨r0, r1, r2, r3, r4, r5⟩ := HS.out w3 (Below.refl _ _)
        clear q0 q1 q2 q3 q4 q5
        go_wp2_with fail
        refine (HV.out _).mono ?_
        rintro e w4 ⟨rfl, hb4⟩
        have HB4 := Lib.hid hb4
        clear hb4 r0 r1 r2 r3 r4 r5 HV
        by_cases c : 0 ≤ b ∧ b ≤ 32
        case neg =>
          rw [decide_eq_false c]
          have HF : Hid (Built w ps (.returned (.tuple #[.pointer none, .int .i64 2])) w4) := Lib.hid (by
            have e := HE1.out (fun h => c (hval.1 h))
            exact ⟨HBW.out _ (HW.out.1.trans (HB4.out.mono HW.out.1.size)), .inl ⟨by rw [e]; decide, by rw [e]⟩⟩)
          go_wp2_with fail
          go_ret2
          exact HF.out
        rw [decide_eq_true c]
        have hV := hval.2 c
        obtain ⟨b0, b1⟩ := c
        obtain ⟨b, rfl⟩ := Int.eq_ofNat_of_zero_le b0
        have hbb : bb = b := by omega
        have hSL := HSL.out b (by omega) hbb
        have HWB := Lib.hid (HBW.out _ (HW.out.1.trans (HB4.out.mono HW.out.1.size)))
        have HS4 : Hid (∀ W, Below w4.heap.size w4 W → W.cell? ⟨wr.heap.size, 0, none⟩ = some (.int .u8 a0) ∧ W.cell? ⟨wr.heap.size, 1, none⟩ = some (.int .u8 a1) ∧ W.cell? ⟨wr.heap.size, 2, none⟩ = some (.int .u8 a2) ∧ W.cell? ⟨wr.heap.size, 3, none⟩ = some (.int .u8 a3) ∧ W.cell? ⟨wr.heap.size, 4, none⟩ = some (.int .i64 (b : Int)) ∧ W.cell? ⟨wr.heap.size, 5, none⟩ = some (.int .i64 t)) := Lib.hid (fun W hW => HS.out W (HB4.out.trans (hW.mono HB4.out.size)))
        clear HS
        have HS := HS4
        clear HS4
        by_cases cL : L
        case neg =>
          have hne : (IntKind.u32.wrap ((x : Int) * 2 ^ b) != 0) = true := by rw [shl_u32]; exact decide_eq_true (fun h => cL (hSL.1 h))
          have e1 := HE2.out hV cL
          have HF : Hid (∀ W, Below w4.heap.size w4 W → Built w ps (.returned (.tuple #[.pointer none, .int .i64 1])) W) := Lib.hid (fun W hW => ⟨HWB.out.trans (hW.mono HWB.out.size), .inl ⟨by rw [e1]; decide, by rw [e1]⟩⟩)
          clear HE1 HE2 HE3 HE4 HSL HQ hSL e1 hval HPP
          go_upto_region 9 with fail
          refine wp_region_held_drew (S := (fun W => W.cell? ⟨wr.heap.size, 0, none⟩ = some (.int .u8 a0) ∧ W.cell? ⟨wr.heap.size, 1, none⟩ = some (.int .u8 a1) ∧ W.cell? ⟨wr.heap.size, 2, none⟩ = some (.int .u8 a2) ∧ W.cell? ⟨wr.heap.size, 3, none⟩ = some (.int .u8 a3) ∧ W.cell? ⟨wr.heap.size, 4, none⟩ = some (.int .i64 (b : Int)) ∧ W.cell? ⟨wr.heap.size, 5, none⟩ = some (.int .i64 t))) (by kernel_rfl) (HS.out _ (Below.refl _ _).drew) (fun hHeld => ?_)
          obtain ⟨w0, hw0⟩ : ∃ W0, W0 = w4.drew := ⟨_, rfl⟩
          have HB0 : Hid (Below w4.heap.size w4 w0) := Lib.hid (by rw [hw0]; exact (Below.refl _ _).drew)
          rw [← hw0] at hHeld ⊢
          clear hw0
          refine wpAnyH_take (i := 0) (v := ?_) (by simp only [List.getElem?_toArray, List.getElem?_cons_zero] <;> rfl) (by kernel_rfl) (by kernel_rfl) (by kernel_rfl) (by exact fun _ _ _ h => h) (Or.inl ⟨by rfl, ?_⟩) hHeld ?_
          rotate_left
          · intro w hSw; (try dsimp only at hSw); go_simp; (try with_reducible rfl)
          (try simp only [Act.put, List.setIfInBounds_toArray, List.set_cons_zero, List.set_cons_succ])
          refine wpAnyH_take (i := 1) (v := ?_) (by simp only [List.getElem?_toArray, List.getElem?_cons_succ, List.getElem?_cons_zero] <;> rfl) (by kernel_rfl) (by kernel_rfl) (by kernel_rfl) (by exact fun _ _ _ h => h) (Or.inl ⟨by rfl, ?_⟩) hHeld ?_
          rotate_left
          · intro w hSw; (try dsimp only at hSw); go_simp; (try with_reducible rfl)
          (try simp only [Act.put, List.setIfInBounds_toArray, List.set_cons_zero, List.set_cons_succ])
          refine wpAnyH_take (i := 3) (v := ?_) (by simp only [List.getElem?_toArray, List.getElem?_cons_succ, List.getElem?_cons_zero] <;> rfl) (by kernel_rfl) (by kernel_rfl) (by kernel_rfl) (by exact fun _ _ _ h => h) (Or.inl ⟨by rfl, ?_⟩) hHeld ?_
          rotate_left
          · intro w hSw; (try dsimp only at hSw); go_simp; (try with_reducible rfl)
          (try simp only [Act.put, List.setIfInBounds_toArray, List.set_cons_zero, List.set_cons_succ])
          refine wpAnyH_take (i := 4) (v := ?_) (by simp only [List.getElem?_toArray, List.getElem?_cons_succ, List.getElem?_cons_zero] <;> rfl) (by kernel_rfl) (by kernel_rfl) (by kernel_rfl) (by exact fun _ _ _ h => h) (Or.inl ⟨by rfl, ?_⟩) hHeld ?_
          rotate_left
          · intro w hSw; (try dsimp only at hSw); go_simp; (try with_reducible rfl)
          (try simp only [Act.put, List.setIfInBounds_toArray, List.set_cons_zero, List.set_cons_succ])
          refine wpAnyH_ready (rs := [2]) (by kernel_rfl) (by simp) ?_
          refine AllReadyH.cons (by simp only [List.getElem?_toArray, List.getElem?_cons_succ, List.getElem?_cons_zero] <;> rfl) (fun K hK => ?_) AllReadyH.nil
          go_simp
          go_at_call 26
          refine (HN.out _).mono ?_
          rintro e w1 ⟨rfl, hb1⟩
          have HB1 := Lib.hid (HB0.out.trans (hb1.mono HB0.out.size))
          clear hb1
          go_wp2_with fail
          refine hK.out _ _ ?_ (fun hHeld => ?_)
          · exact HS.out _ HB1.out
          clear hK K
          (try simp only [Act.put, List.setIfInBounds_toArray, List.set_cons_zero, List.set_cons_succ])
          refine wpAnyH_take (i := 5) (v := ?_) (by simp only [List.getElem?_toArray, List.getElem?_cons_succ, List.getElem?_cons_zero] <;> rfl) (by kernel_rfl) (by kernel_rfl) (by kernel_rfl) (by exact fun _ _ _ h => h) (Or.inl ⟨by rfl, ?_⟩) hHeld ?_
          rotate_left
          · intro w hSw; (try dsimp only at hSw); go_simp; (try with_reducible rfl)
          (try simp only [Act.put, List.setIfInBounds_toArray, List.set_cons_zero, List.set_cons_succ])
          refine wpAnyH_take (i := 6) (v := ?_) (by simp only [List.getElem?_toArray, List.getElem?_cons_succ, List.getElem?_cons_zero] <;> rfl) (by kernel_rfl) (by kernel_rfl) (by kernel_rfl) (by exact fun _ _ _ h => h) (Or.inl ⟨by rfl, ?_⟩) hHeld ?_
          rotate_left
          · intro w hSw; (try dsimp only at hSw); go_simp; (try with_reducible rfl)
          (try simp only [Act.put, List.setIfInBounds_toArray, List.set_cons_zero, List.set_cons_succ])
          refine wpAnyH_take (i := 7) (v := ?_) (by simp only [List.getElem?_toArray, List.getElem?_cons_succ, List.getElem?_cons_zero] <;> rfl) (by kernel_rfl) (by kernel_rfl) (by kernel_rfl) (by exact fun _ _ _ h => h) (Or.inl ⟨by rfl, ?_⟩) hHeld ?_
          rotate_left
          · intro w hSw; (try dsimp only at hSw); go_simp; (try with_reducible rfl)
          (try simp only [Act.put, List.setIfInBounds_toArray, List.set_cons_zero, List.set_cons_succ])
          refine wpAnyH_done (by kernel_rfl) ?_ _
          go_wp2_with fail
          go_ret2
          exact HF.out _ HB1.out
        have hne : (IntKind.u32.wrap ((x : Int) * 2 ^ b) != 0) = false := by rw [shl_u32]; exact decide_eq_false (fun h => h (hSL.2 cL))
        have HQ2 : Hid (∀ W, Below w4.heap.size w4 W → _) := Lib.hid (fun W hW => HQ.out W (HW.out.1.trans ((HB4.out.trans (hW.mono HB4.out.size)).mono HW.out.1.size)))
        have HF : Hid (∀ W, Below w4.heap.size w4 W → Below w.heap.size w W) := Lib.hid (fun W hW => HWB.out.trans (hW.mono HWB.out.size))
        have HZ : Hid (V ∧ L) := Lib.hid ⟨hV, cL⟩
        clear HE1 HE2 HSL HQ hSL hval HPP hV cL HWB
        go_upto_region 9 with fail
        refine wp_region_held_drew (S := (fun W => W.cell? ⟨wr.heap.size, 0, none⟩ = some (.int .u8 a0) ∧ W.cell? ⟨wr.heap.size, 1, none⟩ = some (.int .u8 a1) ∧ W.cell? ⟨wr.heap.size, 2, none⟩ = some (.int .u8 a2) ∧ W.cell? ⟨wr.heap.size, 3, none⟩ = some (.int .u8 a3) ∧ W.cell? ⟨wr.heap.size, 4, none⟩ = some (.int .i64 (b : Int)) ∧ W.cell? ⟨wr.heap.size, 5, none⟩ = some (.int .i64 t))) (by kernel_rfl) (HS.out _ (Below.refl _ _).drew) (fun hHeld => ?_)
        obtain ⟨w0, hw0⟩ : ∃ W0, W0 = w4.drew := ⟨_, rfl⟩
        have HB0 : Hid (Below w4.heap.size w4 w0) := Lib.hid (by rw [hw0]; exact (Below.refl _ _).drew)
        rw [← hw0] at hHeld ⊢
        clear hw0
        refine wpAnyH_take (i := 0) (v := ?_) (by simp only [List.getElem?_toArray, List.getElem?_cons_zero] <;> rfl) (by kernel_rfl) (by kernel_rfl) (by kernel_rfl) (by exact fun _ _ _ h => h) (Or.inl ⟨by rfl, ?_⟩) hHeld ?_
        rotate_left
        · intro w hSw; (try dsimp only at hSw); go_simp; (try with_reducible rfl)
        (try simp only [Act.put, List.setIfInBounds_toArray, List.set_cons_zero, List.set_cons_succ])
        refine wpAnyH_take (i := 1) (v := ?_) (by simp only [List.getElem?_toArray, List.getElem?_cons_succ, List.getElem?_cons_zero] <;> rfl) (by kernel_rfl) (by kernel_rfl) (by kernel_rfl) (by exact fun _ _ _ h => h) (Or.inl ⟨by rfl, ?_⟩) hHeld ?_
        rotate_left
        · intro w hSw; (try dsimp only at hSw); go_simp; (try with_reducible rfl)
        (try simp only [Act.put, List.setIfInBounds_toArray, List.set_cons_zero, List.set_cons_succ])
        refine wpAnyH_take (i := 3) (v := ?_) (by simp only [List.getElem?_toArray, List.getElem?_cons_succ, List.getElem?_cons_zero] <;> rfl) (by kernel_rfl) (by kernel_rfl) (by kernel_rfl) (by exact fun _ _ _ h => h) (Or.inl ⟨by rfl, ?_⟩) hHeld ?_
        rotate_left
        · intro w hSw; (try dsimp only at hSw); go_simp; (try with_reducible rfl)
        (try simp only [Act.put, List.setIfInBounds_toArray, List.set_cons_zero, List.set_cons_succ])
        refine wpAnyH_take (i := 4) (v := ?_) (by simp only [List.getElem?_toArray, List.getElem?_cons_succ, List.getElem?_cons_zero] <;> rfl) (by kernel_rfl) (by kernel_rfl) (by kernel_rfl) (by exact fun _ _ _ h => h) (Or.inl ⟨by rfl, ?_⟩) hHeld ?_
        rotate_left
        · intro w hSw; (try dsimp only at hSw); go_simp; (try with_reducible rfl)
        (try simp only [Act.put, List.setIfInBounds_toArray, List.set_cons_zero, List.set_cons_succ])
        refine wpAnyH_ready (rs := [2]) (by kernel_rfl) (by simp) ?_
        refine AllReadyH.cons (by simp only [List.getElem?_toArray, List.getElem?_cons_succ, List.getElem?_cons_zero] <;> rfl) (fun K hK => ?_) AllReadyH.nil
        go_simp
        go_at_call 26
        refine (HN.out _).mono ?_
        rintro e w1 ⟨rfl, hb1⟩
        have HB1 := Lib.hid (HB0.out.trans (hb1.mono HB0.out.size))
        clear hb1
        go_wp2_with fail
        refine hK.out _ _ ?_ (fun hHeld => ?_)
        · exact HS.out _ HB1.out
        clear hK K
        (try simp only [Act.put, List.setIfInBounds_toArray, List.set_cons_zero, List.set_cons_succ])
        refine wpAnyH_take (i := 5) (v := ?_) (by simp only [List.getElem?_toArray, List.getElem?_cons_succ, List.getElem?_cons_zero] <;> rfl) (by kernel_rfl) (by kernel_rfl) (by kernel_rfl) (by exact fun _ _ _ h => h) (Or.inl ⟨by rfl, ?_⟩) hHeld ?_
        rotate_left
        · intro w hSw; (try dsimp only at hSw); go_simp; (try with_reducible rfl)
        (try simp only [Act.put, List.setIfInBounds_toArray, List.set_cons_zero, List.set_cons_succ])
        refine wpAnyH_take (i := 6) (v := ?_) (by simp only [List.getElem?_toArray, List.getElem?_cons_succ, List.getElem?_cons_zero] <;> rfl) (by kernel_rfl) (by kernel_rfl) (by kernel_rfl) (by exact fun _ _ _ h => h) (Or.inl ⟨by rfl, ?_⟩) hHeld ?_
        rotate_left
        · intro w hSw; (try dsimp only at hSw); go_simp; (try with_reducible rfl)
        (try simp only [Act.put, List.setIfInBounds_toArray, List.set_cons_zero, List.set_cons_succ])
        refine wpAnyH_take (i := 7) (v := ?_) (by simp only [List.getElem?_toArray, List.getElem?_cons_succ, List.getElem?_cons_zero] <;> rfl) (by kernel_rfl) (by kernel_rfl) (by kernel_rfl) (by exact fun _ _ _ h => h) (Or.inl ⟨by rfl, ?_⟩) hHeld ?_
        rotate_left
        · intro w hSw; (try dsimp only at hSw); go_simp; (try with_reducible rfl)
        (try simp only [Act.put, List.setIfInBounds_toArray, List.set_cons_zero, List.set_cons_succ])
        refine wpAnyH_done (by kernel_rfl) ?_ _
        obtain ⟨r0, r1, r2, r3, r4, r5⟩ := HS.out _ HB1.out
        obtain ⟨ns, hnl, HC⟩ := HQ2.out _ HB1.out
        have HC2 := Lib.hid (HC HZ.out.1 HZ.out.2)
        have HB9 := Lib.hid (HF.out _ HB1.out)
        clear HC HQ2 HF HB0 HB1 HS HBW HB4 HW
        clear hHeld
        go_wp2_with fail
        refine HC2.out.mono ?_
        rintro e w9 ⟨hb9, hadd⟩
        have HB10 := Lib.hid (HB9.out.trans hb9)
        clear hb9 HC2 r0 r1 r2 r3 r4 r5
        rcases hadd with ⟨rfl, hs⟩ | ⟨rfl, hs, ms, h1, h2, h3⟩
        · have HG : Hid (Built w ps (.returned (.tuple #[.pointer none, .int .i64 6])) w9) := Lib.hid (by
            have e := HE3.out HZ.out.1 HZ.out.2 hs
            exact ⟨HB10.out, .inl ⟨by rw [e]; decide, by rw [e]⟩⟩)
          clear HE3 HE4 hs
          go_wp2_with fail
          go_ret2
          exact HG.out
        · have HG := Lib.hid (HE4.out HZ.out.1 HZ.out.2 hs w9 ms HB10.out h2 h3 (by omega))
          clear HE3 HE4 hs h1 h2 h3
          go_wp2_with fail
          go_roundg k
          case measure => omega
          case rel => exact ⟨i + 1, by go_num, by omega, HG⟩
end Go.Proofs.Ytcadjgmglaimdaa
