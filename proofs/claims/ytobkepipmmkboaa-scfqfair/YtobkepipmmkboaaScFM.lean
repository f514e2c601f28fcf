/- ScfqFair, plain: what the loop keeps, operation by operation. -/
import Derived.Test.YtobkepipmmkboaaScOM
import Derived.Test.YtobkepipmmkboaaSc0
namespace Go.Proofs.Ytobkepipmmkboaa

/-- How many bytes of a flow were sent. -/
def gotOf (f : Nat) : List (Nat × Int) → Int
  | [] => 0
  | s :: ss => (if s.1 = f then s.2 else 0) + gotOf f ss
theorem gotOf_snoc (f : Nat) (a : Nat) (b : Int) : ∀ ss, gotOf f (ss ++ [(a, b)]) = gotOf f ss + if a = f then b else 0
  | [] => by simp [gotOf]
  | s :: ss => by
    rw [List.cons_append, gotOf, gotOf, gotOf_snoc f a b ss]
    omega
/-- What is known while both wait. -/
def Fs (u w : Nat → Int) (a b : Nat) (t : ScAt) (bo : Bool) (lo hi : Int) : Prop :=
  bo = true → t.st.q a ≠ [] ∧ t.st.q b ≠ [] ∧ FairIn t.st u w a b (gotOf a t.sent * w b - gotOf b t.sent * w a) lo hi ∧ (-7200000 ≤ lo ∧ lo ≤ 7200000) ∧ -7200000 ≤ hi ∧ hi ≤ 7200000
theorem Fs.off {u w : Nat → Int} {a b : Nat} {t : ScAt} (lo hi : Int) : Fs u w a b t false lo hi := fun h => by cases h
theorem fairMul {x v : Int} (hx : 0 ≤ x ∧ x ≤ 600000) (hv : 1 ≤ v ∧ v ≤ 12) : 0 ≤ x * v ∧ x * v ≤ 7200000 := by
  have h1 := Int.mul_nonneg hx.1 (show 0 ≤ v by omega)
  have h2 := Int.mul_le_mul_of_nonneg_left hv.2 hx.1
  omega
section
variable {u w : Nat → Int} {n : Nat} {a b : Nat}
/-- A step while both wait, or from then on. -/
theorem Fs.step {t t' : ScAt} (ht : t.st.Good u n) (ht' : t'.st.Good u n) (hu : ∀ k, 0 ≤ u k) (wa : 1 ≤ w a ∧ w a ≤ 12) (wb : 1 ≤ w b ∧ w b ≤ 12) (ea : u a * w a = 27720) (eb : u b * w b = 27720) (hab : a ≠ b)
    (hs : (∃ f m, t'.st = t.st.come u f m ∧ t'.sent = t.sent) ∨ ∃ f m g, t.st.Best n f m g ∧ t'.st = t.st.send f g ∧ t'.sent = t.sent ++ [(f, m)])
    (h0 : 0 ≤ gotOf a t'.sent ∧ gotOf a t'.sent ≤ 600000) (h1 : 0 ≤ gotOf b t'.sent ∧ gotOf b t'.sent ≤ 600000) (qa : t'.st.q a ≠ []) (qb : t'.st.q b ≠ []) {d : Int} (hd : gotOf a t'.sent * w b - gotOf b t'.sent * w a = d) {bo : Bool} {lo hi : Int} (h : Fs u w a b t bo lo hi) :
    (-7200000 ≤ d ∧ d ≤ 7200000) ∧ (bo = false → Fs u w a b t' true d d) ∧ (bo = true → Fs u w a b t' true (min lo d) (max hi d) ∧ (-7200000 ≤ lo ∧ lo ≤ 7200000) ∧ (-7200000 ≤ hi ∧ hi ≤ 7200000) ∧ max hi d - min lo d ≤ 1500 * (w a + w b)) := by
  have m0 := fairMul h0 wb
  have m1 := fairMul h1 wa
  have hdb : -7200000 ≤ d ∧ d ≤ 7200000 := by omega
  refine ⟨hdb, fun _ _ => ⟨qa, qb, ?_, hdb, hdb⟩, fun hbo => ?_⟩
  · rw [hd]
    exact FairIn.start ht' hu qa qb wa.1 wb.1 ea eb d
  · obtain ⟨pa, pb, hF, hlo, hhi⟩ := h hbo
    have hgap : t'.st.gap u w a b = t.st.gap u w a b + 27720 * (d - (gotOf a t.sent * w b - gotOf b t.sent * w a)) := by
      rw [← hd]
      rcases hs with ⟨f, m, e1, e2⟩ | ⟨f, m, g, hB, e1, e2⟩
      · rw [e1, e2, gap_come _ _ _ f m pa pb]
        omega
      · rw [e1] at qa qb
        rw [e1, e2, gap_send ht hab ea eb hB qa qb, gotOf_snoc, gotOf_snoc]
        by_cases c : f = a
        · subst c
          rw [if_pos rfl, if_neg hab, if_pos rfl, if_neg hab, Int.add_zero, Int.add_mul]
          omega
        · rw [if_neg c, if_neg c]
          by_cases e : f = b
          · subst e
            rw [if_pos rfl, if_pos rfl, Int.add_zero, Int.add_mul]
            omega
          · rw [if_neg e, if_neg e, Int.add_zero, Int.add_zero]
            omega
    have hN := hF.next ht' hu qa qb wa.1 wb.1 ea eb hgap
    refine ⟨fun _ => ⟨qa, qb, ?_, ?_, ?_⟩, hlo, hhi, hN.near⟩
    · rw [hd]; exact hN
    · omega
    · omega
end
theorem gotOf_bounds (f : Nat) : ∀ ss : List (Nat × Int), (∀ s ∈ ss, 0 ≤ s.2 ∧ s.2 ≤ 1500) → 0 ≤ gotOf f ss ∧ gotOf f ss ≤ 1500 * (ss.length : Int)
  | [], _ => ⟨Int.le_refl _, by simp [gotOf]⟩
  | s :: ss, h => by
    have ih := gotOf_bounds f ss fun x hx => h x (by simp [hx])
    have hs := h s (by simp)
    rw [gotOf, List.length_cons]
    by_cases c : s.1 = f
    · rw [if_pos c]; omega
    · rw [if_neg c]; omega
theorem scRun_sent_bounds {u : Nat → Int} (hu : ∀ k, 0 ≤ u k) (n : Nat) (os : List (Int × Int × Int)) : ∀ s ∈ (scRun u n os).sent, 1 ≤ s.2 ∧ s.2 ≤ 1500 := by
  have key : ∀ (os : List (Int × Int × Int)) (t : ScAt), t.st.Good u n → (∀ s ∈ t.sent, 1 ≤ s.2 ∧ s.2 ≤ 1500) → ∀ s ∈ (os.foldl (ScAt.step u n) t).sent, 1 ≤ s.2 ∧ s.2 ≤ 1500 := by
    intro os
    induction os with
    | nil => exact fun _ _ h => h
    | cons o os ih =>
      intro t ht h
      rcases t.way u n o with ⟨_, e⟩ | ⟨f, _, _, hf, h1, h2, _, e⟩ | ⟨f, b, g, _, _, hb, _, e⟩
      · exact ih _ (by rw [e]; exact ht) (by rw [e]; exact h)
      · exact ih _ (by rw [e]; exact ht.come hu hf ⟨h1, h2⟩) (by rw [e]; exact h)
      · refine ih _ (by rw [e]; exact ht.send hu hb) ?_
        rw [e]
        intro s hs
        rcases List.mem_append.1 hs with hs | hs
        · exact h s hs
        · rw [List.mem_singleton] at hs
          subst hs
          obtain ⟨r, hr⟩ := hb.has
          have := ht.size f (b, g) (by rw [hr]; simp)
          dsimp only at this ⊢
          omega
  exact key os _ (Sc.Good.start u n) fun _ h => (by cases h)
/-- What the loop keeps, as numbers of the operation. -/
theorem fair_plan {xs : List Int} (hR : Right xs) {os : List (Int × Int × Int)} (hm : os.length ≤ 400) {a b : Nat} (ha : a < xs.length) (hb : b < xs.length) (hab : a ≠ b) :
    ∃ (wt : Nat → Nat → Int) (pt : Nat → Nat) (g0 g1 : Nat → Int) (F : Nat → Bool → Int → Int → Prop),
      (∀ k, wt 0 k = 0) ∧ pt 0 = 0 ∧ g0 0 = 0 ∧ g1 0 = 0 ∧ (∀ i lo hi, F i false lo hi) ∧ (∀ i k, 0 ≤ wt i k ∧ wt i k ≤ 400) ∧ (∀ i, 0 ≤ g0 i ∧ g0 i ≤ 600000) ∧ (∀ i, 0 ≤ g1 i ∧ g1 i ≤ 600000) ∧
      ∀ (i : Nat) (x y z : Int), os[i]? = some (x, y, z) → ∃ er, (scRun (uW xs) xs.length os).errs[i]? = some er ∧
        ((er ≠ 0 ∧ (∀ k, wt (i + 1) k = wt i k) ∧ pt (i + 1) = pt i ∧ g0 (i + 1) = g0 i ∧ g1 (i + 1) = g1 i ∧ ∀ bo lo hi, F i bo lo hi → F (i + 1) bo lo hi) ∨
         (er = 0 ∧ (∀ bo lo hi, F i bo lo hi → wt (i + 1) a ≠ 0 → wt (i + 1) b ≠ 0 → ∀ d, g0 (i + 1) * fn xs b - g1 (i + 1) * fn xs a = d →
              (-7200000 ≤ d ∧ d ≤ 7200000) ∧ (bo = false → F (i + 1) true d d) ∧ (bo = true → F (i + 1) true (min lo d) (max hi d) ∧ (-7200000 ≤ lo ∧ lo ≤ 7200000) ∧ (-7200000 ≤ hi ∧ hi ≤ 7200000) ∧ max hi d - min lo d ≤ 1500 * (fn xs a + fn xs b))) ∧
           ((x = 1 ∧ ∃ f : Nat, f < xs.length ∧ y = (f : Int) ∧ (∀ k, wt (i + 1) k = if k = f then wt i k + 1 else wt i k) ∧ pt (i + 1) = pt i ∧ g0 (i + 1) = g0 i ∧ g1 (i + 1) = g1 i) ∨
            (x = 2 ∧ ∃ (f : Nat) (c : Int), f < xs.length ∧ 0 ≤ c ∧ c ≤ 1500 ∧ (scRun (uW xs) xs.length os).sent[pt i]? = some (f, c) ∧ pt (i + 1) = pt i + 1 ∧ (∀ k, wt (i + 1) k = if k = f then wt i k - 1 else wt i k) ∧
              g0 (i + 1) = (if f = a then g0 i + c else g0 i) ∧ g1 (i + 1) = if f = b then g1 i + c else g1 i)))) := by
  have hu : ∀ k, 0 ≤ uW xs k := fun k => (uW_bounds hR k).1
  have hgo : ∀ f i, 0 ≤ gotOf f (scRun (uW xs) xs.length (os.take i)).sent ∧ gotOf f (scRun (uW xs) xs.length (os.take i)).sent ≤ 600000 := fun f i => by
    have h1 := gotOf_bounds f _ fun s hs => ⟨by have := (scRun_sent_bounds hu xs.length (os.take i) s hs).1; omega, (scRun_sent_bounds hu xs.length (os.take i) s hs).2⟩
    have h2 := (scRun_at hR hm i).2.2.1
    omega
  refine ⟨fun i k => (((scRun (uW xs) xs.length (os.take i)).st.q k).length : Int), fun i => (scRun (uW xs) xs.length (os.take i)).sent.length, fun i => gotOf a (scRun (uW xs) xs.length (os.take i)).sent, fun i => gotOf b (scRun (uW xs) xs.length (os.take i)).sent, fun i => Fs (uW xs) (fn xs) a b (scRun (uW xs) xs.length (os.take i)),
    fun _ => rfl, rfl, rfl, rfl, fun i lo hi => Fs.off lo hi, fun i k => ?_, hgo a, hgo b, fun i x y z h => ⟨_, scRun_errAt h, ?_⟩⟩
  · have := (scRun_at hR hm i).1.few k
    dsimp only
    omega
  · have ht := (scRun_at hR hm i).2.2.2
    have ht' := (scRun_at hR hm (i + 1)).2.2.2
    have ha' := hgo a (i + 1)
    have hb' := hgo b (i + 1)
    have hstep := scRun_succ (uW xs) xs.length h
    have hst := fun hs bo lo hi hF qa qb d hd => Fs.step (u := uW xs) (w := fn xs) (n := xs.length) (a := a) (b := b) ht ht' hu (hR.fn ha) (hR.fn hb) (uW_mul hR ha) (uW_mul hR hb) hab hs ha' hb' qa qb (d := d) hd (bo := bo) (lo := lo) (hi := hi) hF
    dsimp only
    rcases (scRun (uW xs) xs.length (os.take i)).way (uW xs) xs.length (x, y, z) with ⟨he, e⟩ | ⟨f, h1, h2, hf, _, _, he, e⟩ | ⟨f, c, g, h1, _, hB, he, e⟩
    · rw [e] at hstep
      refine .inl ⟨he, ?_⟩
      rw [hstep]
      exact ⟨fun _ => rfl, rfl, rfl, rfl, fun _ _ _ hF => hF⟩
    · refine .inr ⟨he, fun bo lo hi hF qa qb d hd => ?_, .inl ⟨h1, f, hf, h2, ?_⟩⟩
      · exact hst (.inl ⟨f, z, by rw [hstep, e], by rw [hstep, e]⟩) bo lo hi hF (fun e0 => qa (by rw [e0]; rfl)) (fun e0 => qb (by rw [e0]; rfl)) d hd
      · rw [hstep, e]
        refine ⟨fun k => ?_, rfl, rfl, rfl⟩
        show ((if k = f then _ else _ : List (Int × Int)).length : Int) = _
        by_cases ck : k = f
        · subst ck
          rw [if_pos rfl, if_pos rfl, List.length_append, List.length_singleton]
          omega
        · rw [if_neg ck, if_neg ck]
    · obtain ⟨r, hr⟩ := hB.has
      have hc := ht.size f (c, g) (by rw [hr]; simp)
      refine .inr ⟨he, fun bo lo hi hF qa qb d hd => ?_, .inr ⟨h1, f, c, hB.lt, by dsimp only at hc; omega, by dsimp only at hc; omega, scRun_sentAt h (by rw [e]), ?_⟩⟩
      · exact hst (.inr ⟨f, c, g, hB, by rw [hstep, e], by rw [hstep, e]⟩) bo lo hi hF (fun e0 => qa (by rw [e0]; rfl)) (fun e0 => qb (by rw [e0]; rfl)) d hd
      · rw [hstep, e]
        refine ⟨by rw [List.length_append, List.length_singleton], fun k => ?_, ?_, ?_⟩
        · show ((if k = f then ((scRun (uW xs) xs.length (os.take i)).st.q f).tail else (scRun (uW xs) xs.length (os.take i)).st.q k).length : Int) = _
          by_cases ck : k = f
          · subst ck
            rw [if_pos rfl, if_pos rfl, hr, List.tail_cons, List.length_cons]
            omega
          · rw [if_neg ck, if_neg ck]
        · rw [gotOf_snoc]
          by_cases ck : f = a
          · rw [if_pos ck, if_pos ck]
          · rw [if_neg ck, if_neg ck, Int.add_zero]
        · rw [gotOf_snoc]
          by_cases ck : f = b
          · rw [if_pos ck, if_pos ck]
          · rw [if_neg ck, if_neg ck, Int.add_zero]
end Go.Proofs.Ytobkepipmmkboaa
