/- Contracts of package frac: what each function returns, for every argument. -/
import Derived.Test.YtfopcipapphogaaFrNum
import Derived.Lib.Hide
namespace Go.Proofs.Ytfopcipapphogaa
open Go.RowKit

/-- A fraction that is small enough. -/
structure FOk (n d : Int) : Prop where
  d0 : 1 ≤ d
  d1 : d ≤ 1073741824
  n0 : -1073741824 ≤ n
  n1 : n ≤ 1073741824
theorem fok_iff (n d : Int) : FOk n d ↔ (1 ≤ d ∧ d ≤ 1073741824 ∧ -1073741824 ≤ n ∧ n ≤ 1073741824) := ⟨fun h => ⟨h.d0, h.d1, h.n0, h.n1⟩, fun h => ⟨h.1, h.2.1, h.2.2.1, h.2.2.2⟩⟩
instance (n d : Int) : Decidable (FOk n d) := decidable_of_iff _ (fok_iff n d).symm

set_option maxHeartbeats 1000000 in
theorem compareI_any (x y : Int) (w : World) :
    Calls Try.prog 69 #[.int .i64 x, .int .i64 y] w fun e w' => e = .returned (.int .i64 (cmpI x y)) ∧ w = w' := by
  go_enter Try.func69, Try.ntmps69
  go_wp2
  all_goals (go_ret; refine ⟨?_, rfl⟩; unfold cmpI; (repeat' split) <;> first | rfl | (exfalso; omega))

theorem right_any (n d : Int) (w : World) :
    Calls Try.prog 33 #[.agg #[.int .i64 n, .int .i64 d]] w fun e w' => e = .returned (.bool (decide (FOk n d))) ∧ Below w.heap.size w w' := by
  go_enter Try.func33, Try.ntmps33
  go_wp2
  all_goals (go_ret; refine ⟨?_, (Below.refl _ _).alloc (Nat.le_refl _) _⟩; simp only [fok_iff]; first | (simp; omega) | (rename_i h1 h2 h3; simp [h1, h2, h3]))

theorem right_yes {n d : Int} (h : FOk n d) (w : World) :
    Calls Try.prog 33 #[.agg #[.int .i64 n, .int .i64 d]] w fun e w' => e = .returned (.bool true) ∧ Below w.heap.size w w' :=
  (right_any n d w).mono fun _ _ ⟨he, hb⟩ => ⟨by rw [he, decide_eq_true h], hb⟩
theorem right_no {n d : Int} (h : ¬ FOk n d) (w : World) :
    Calls Try.prog 33 #[.agg #[.int .i64 n, .int .i64 d]] w fun e w' => e = .returned (.bool false) ∧ Below w.heap.size w w' :=
  (right_any n d w).mono fun _ _ ⟨he, hb⟩ => ⟨by rw [he, decide_eq_false h], hb⟩

/-- A fraction lies in block b. -/
def FAt (w : World) (b : Nat) (n d : Int) : Prop := w.cell? ⟨b, 0, none⟩ = some (.int .i64 n) ∧ w.cell? ⟨b, 1, none⟩ = some (.int .i64 d) ∧ b < w.heap.size ∧ w.frozen? ⟨b, 0, none⟩ = false ∧ w.frozen? ⟨b, 1, none⟩ = false
theorem FAt.below {W w' : World} {b : Nat} {h l : Int} (p : FAt W b h l) (hb : Below W.heap.size W w') : FAt w' b h l :=
  ⟨(hb.cell (p := ⟨b, 0, none⟩) p.2.2.1).trans p.1, (hb.cell (p := ⟨b, 1, none⟩) p.2.2.1).trans p.2.1, Nat.lt_of_lt_of_le p.2.2.1 hb.size,
    (hb.frozen (p := ⟨b, 0, none⟩) p.2.2.1).trans p.2.2.2.1, (hb.frozen (p := ⟨b, 1, none⟩) p.2.2.1).trans p.2.2.2.2⟩
theorem FAt.alloc {W : World} {b : Nat} {h l : Int} (p : FAt W b h l) (o : Obj) : FAt (W.alloc o) b h l :=
  p.below ((Below.refl _ _).alloc (Nat.le_refl _) o)
theorem FAt.drewN {W : World} {b : Nat} {h l : Int} (p : FAt W b h l) (n : Nat) : FAt (W.drewN n) b h l := p
theorem FAt.new (w : World) (h l : Int) : FAt (w.alloc (.cells #[.int .i64 h, .int .i64 l] 50)) w.heap.size h l := by
  refine ⟨?_, ?_, ?_, ?_, ?_⟩ <;> simp [go_sem]
theorem FAt.at_ {W : World} {b b' : Nat} {h l : Int} (p : FAt W b h l) (e : b = b') : FAt W b' h l := e ▸ p

theorem prod_bound {a b A B : Int} (h0 : -A ≤ a) (h1 : a ≤ A) (k0 : -B ≤ b) (k1 : b ≤ B) : -(A * B) ≤ a * b ∧ a * b ≤ A * B := by
  have hA : 0 ≤ A := by omega
  have hB : 0 ≤ B := by omega
  have key : (a * b).natAbs ≤ (A * B).natAbs := by
    rw [Int.natAbs_mul, Int.natAbs_mul]
    exact Nat.mul_le_mul (by omega) (by omega)
  have := Int.mul_nonneg hA hB
  omega

theorem cmpF_yes (n d m e : Int) (h1 : FOk n d) (h2 : FOk m e) (w : World) :
    Calls Try.prog 30 #[.agg #[.int .i64 n, .int .i64 d], .agg #[.int .i64 m, .int .i64 e]] w fun r w' =>
      r = .returned (.tuple #[.int .i64 (cmpI (n * e) (m * d)), .int .i64 0]) ∧ Below w.heap.size w w' := by
  have p1 := prod_bound h1.n0 h1.n1 (show -1073741824 ≤ e by have := h2.d0; omega) h2.d1
  have p2 := prod_bound h2.n0 h2.n1 (show -1073741824 ≤ d by have := h1.d0; omega) h1.d1
  go_enter Try.func30, Try.ntmps30
  have Pa := ((FAt.new w (n) (d)).alloc (.cells #[.int .i64 (m), .int .i64 (e)] 50)).at_ (b' := w.heap.size) (by simp)
  have Pb := (FAt.new (w.alloc (.cells #[.int .i64 (n), .int .i64 (d)] 50)) (m) (e)).at_ (b' := w.heap.size + 1) (by simp)
  have B := (((Below.refl w.heap.size w).alloc (by first | omega | (simp; done) | (simp; omega)) (.cells #[.int .i64 (n), .int .i64 (d)] 50)).alloc (by first | omega | (simp; done) | (simp; omega)) (.cells #[.int .i64 (m), .int .i64 (e)] 50))
  go_wp2_with fail
  refine (right_yes h1 _).mono ?_
  rintro e w1 ⟨rfl, hb1⟩
  replace Pa := Pa.below hb1
  replace Pb := Pb.below hb1
  replace B := below_of B hb1 (by first | omega | (simp; done) | (simp; omega))
  have hs1 := B.size
  obtain ⟨pa, qa, ra, fa, ga⟩ := id Pa
  obtain ⟨pb, qb, rb, fb, gb⟩ := id Pb
  go_wp2_with fail
  refine (right_yes h2 _).mono ?_
  rintro e w2 ⟨rfl, hb2⟩
  replace Pa := Pa.below hb2
  replace Pb := Pb.below hb2
  replace B := below_of B hb2 (by first | omega | (simp; done) | (simp; omega))
  have hs2 := B.size
  obtain ⟨pa, qa, ra, fa, ga⟩ := id Pa
  obtain ⟨pb, qb, rb, fb, gb⟩ := id Pb
  go_wp2_with fail
  refine (compareI_any (n * e) (m * d) _).mono ?_
  rintro e w3 ⟨rfl, rfl⟩
  go_wp2
  exact bodyPost_ret (v := .tuple #[.int .i64 (cmpI (n * e) (m * d)), .int .i64 0]) (by simp [results, Try.results30, go_sem]) rfl ⟨rfl, B⟩

theorem cmpF_no1 (n d m e : Int) (h1 : ¬ FOk n d) (w : World) :
    Calls Try.prog 30 #[.agg #[.int .i64 n, .int .i64 d], .agg #[.int .i64 m, .int .i64 e]] w fun r w' =>
      r = .returned (.tuple #[.int .i64 0, .int .i64 2]) ∧ Below w.heap.size w w' := by
  go_enter Try.func30, Try.ntmps30
  have Pa := ((FAt.new w (n) (d)).alloc (.cells #[.int .i64 (m), .int .i64 (e)] 50)).at_ (b' := w.heap.size) (by simp)
  have Pb := (FAt.new (w.alloc (.cells #[.int .i64 (n), .int .i64 (d)] 50)) (m) (e)).at_ (b' := w.heap.size + 1) (by simp)
  have B := (((Below.refl w.heap.size w).alloc (by first | omega | (simp; done) | (simp; omega)) (.cells #[.int .i64 (n), .int .i64 (d)] 50)).alloc (by first | omega | (simp; done) | (simp; omega)) (.cells #[.int .i64 (m), .int .i64 (e)] 50))
  go_wp2_with fail
  refine (right_no h1 _).mono ?_
  rintro e w1 ⟨rfl, hb1⟩
  replace Pa := Pa.below hb1
  replace Pb := Pb.below hb1
  replace B := below_of B hb1 (by first | omega | (simp; done) | (simp; omega))
  have hs1 := B.size
  obtain ⟨pa, qa, ra, fa, ga⟩ := id Pa
  obtain ⟨pb, qb, rb, fb, gb⟩ := id Pb
  go_wp2
  exact bodyPost_ret (v := .tuple #[.int .i64 0, .int .i64 2]) (by simp [results, Try.results30, go_sem]) rfl ⟨rfl, B⟩

theorem cmpF_no2 (n d m e : Int) (h1 : FOk n d) (h2 : ¬ FOk m e) (w : World) :
    Calls Try.prog 30 #[.agg #[.int .i64 n, .int .i64 d], .agg #[.int .i64 m, .int .i64 e]] w fun r w' =>
      r = .returned (.tuple #[.int .i64 0, .int .i64 2]) ∧ Below w.heap.size w w' := by
  go_enter Try.func30, Try.ntmps30
  have Pa := ((FAt.new w (n) (d)).alloc (.cells #[.int .i64 (m), .int .i64 (e)] 50)).at_ (b' := w.heap.size) (by simp)
  have Pb := (FAt.new (w.alloc (.cells #[.int .i64 (n), .int .i64 (d)] 50)) (m) (e)).at_ (b' := w.heap.size + 1) (by simp)
  have B := (((Below.refl w.heap.size w).alloc (by first | omega | (simp; done) | (simp; omega)) (.cells #[.int .i64 (n), .int .i64 (d)] 50)).alloc (by first | omega | (simp; done) | (simp; omega)) (.cells #[.int .i64 (m), .int .i64 (e)] 50))
  go_wp2_with fail
  refine (right_yes h1 _).mono ?_
  rintro e w1 ⟨rfl, hb1⟩
  replace Pa := Pa.below hb1
  replace Pb := Pb.below hb1
  replace B := below_of B hb1 (by first | omega | (simp; done) | (simp; omega))
  have hs1 := B.size
  obtain ⟨pa, qa, ra, fa, ga⟩ := id Pa
  obtain ⟨pb, qb, rb, fb, gb⟩ := id Pb
  go_wp2_with fail
  refine (right_no h2 _).mono ?_
  rintro e w2 ⟨rfl, hb2⟩
  replace Pa := Pa.below hb2
  replace Pb := Pb.below hb2
  replace B := below_of B hb2 (by first | omega | (simp; done) | (simp; omega))
  have hs2 := B.size
  obtain ⟨pa, qa, ra, fa, ga⟩ := id Pa
  obtain ⟨pb, qb, rb, fb, gb⟩ := id Pb
  go_wp2
  exact bodyPost_ret (v := .tuple #[.int .i64 0, .int .i64 2]) (by simp [results, Try.results30, go_sem]) rfl ⟨rfl, B⟩

theorem addF_no1 (n d m e : Int) (h1 : ¬ FOk n d) (w : World) :
    Calls Try.prog 31 #[.agg #[.int .i64 n, .int .i64 d], .agg #[.int .i64 m, .int .i64 e]] w fun r w' =>
      r = .returned (.tuple #[.agg #[.int .i64 0, .int .i64 0], .int .i64 2]) ∧ Below w.heap.size w w' := by
  go_enter Try.func31, Try.ntmps31
  have Pa := (((FAt.new w (n) (d)).alloc (.cells #[.int .i64 (m), .int .i64 (e)] 50)).alloc (.cells #[.int .i64 (0), .int .i64 (0)] 50)).at_ (b' := w.heap.size) (by simp)
  have Pb := ((FAt.new (w.alloc (.cells #[.int .i64 (n), .int .i64 (d)] 50)) (m) (e)).alloc (.cells #[.int .i64 (0), .int .i64 (0)] 50)).at_ (b' := w.heap.size + 1) (by simp)
  have Pz := (FAt.new ((w.alloc (.cells #[.int .i64 (n), .int .i64 (d)] 50)).alloc (.cells #[.int .i64 (m), .int .i64 (e)] 50)) (0) (0)).at_ (b' := w.heap.size + 1 + 1) (by simp)
  have B := ((((Below.refl w.heap.size w).alloc (by first | omega | (simp; done) | (simp; omega)) (.cells #[.int .i64 (n), .int .i64 (d)] 50)).alloc (by first | omega | (simp; done) | (simp; omega)) (.cells #[.int .i64 (m), .int .i64 (e)] 50)).alloc (by first | omega | (simp; done) | (simp; omega)) (.cells #[.int .i64 (0), .int .i64 (0)] 50))
  go_wp2_with fail
  refine (right_no h1 _).mono ?_
  rintro e w1 ⟨rfl, hb1⟩
  replace Pa := Pa.below hb1
  replace Pb := Pb.below hb1
  replace Pz := Pz.below hb1
  replace B := below_of B hb1 (by first | omega | (simp; done) | (simp; omega))
  have hs1 := B.size
  obtain ⟨pa, qa, ra, fa, ga⟩ := id Pa
  obtain ⟨pb, qb, rb, fb, gb⟩ := id Pb
  obtain ⟨pz, qz, rz, fz, gz⟩ := id Pz
  go_wp2
  exact bodyPost_ret (v := .tuple #[.agg #[.int .i64 0, .int .i64 0], .int .i64 2]) (by simp [results, Try.results31, go_sem, pz, qz]) rfl ⟨rfl, ((B.setCell (by first | omega | (simp; done) | (simp; omega)) _).setCell (by first | omega | (simp; done) | (simp; omega)) _)⟩

theorem addF_no2 (n d m e : Int) (h1 : FOk n d) (h2 : ¬ FOk m e) (w : World) :
    Calls Try.prog 31 #[.agg #[.int .i64 n, .int .i64 d], .agg #[.int .i64 m, .int .i64 e]] w fun r w' =>
      r = .returned (.tuple #[.agg #[.int .i64 0, .int .i64 0], .int .i64 2]) ∧ Below w.heap.size w w' := by
  go_enter Try.func31, Try.ntmps31
  have Pa := (((FAt.new w (n) (d)).alloc (.cells #[.int .i64 (m), .int .i64 (e)] 50)).alloc (.cells #[.int .i64 (0), .int .i64 (0)] 50)).at_ (b' := w.heap.size) (by simp)
  have Pb := ((FAt.new (w.alloc (.cells #[.int .i64 (n), .int .i64 (d)] 50)) (m) (e)).alloc (.cells #[.int .i64 (0), .int .i64 (0)] 50)).at_ (b' := w.heap.size + 1) (by simp)
  have Pz := (FAt.new ((w.alloc (.cells #[.int .i64 (n), .int .i64 (d)] 50)).alloc (.cells #[.int .i64 (m), .int .i64 (e)] 50)) (0) (0)).at_ (b' := w.heap.size + 1 + 1) (by simp)
  have B := ((((Below.refl w.heap.size w).alloc (by first | omega | (simp; done) | (simp; omega)) (.cells #[.int .i64 (n), .int .i64 (d)] 50)).alloc (by first | omega | (simp; done) | (simp; omega)) (.cells #[.int .i64 (m), .int .i64 (e)] 50)).alloc (by first | omega | (simp; done) | (simp; omega)) (.cells #[.int .i64 (0), .int .i64 (0)] 50))
  go_wp2_with fail
  refine (right_yes h1 _).mono ?_
  rintro e w1 ⟨rfl, hb1⟩
  replace Pa := Pa.below hb1
  replace Pb := Pb.below hb1
  replace Pz := Pz.below hb1
  replace B := below_of B hb1 (by first | omega | (simp; done) | (simp; omega))
  have hs1 := B.size
  obtain ⟨pa, qa, ra, fa, ga⟩ := id Pa
  obtain ⟨pb, qb, rb, fb, gb⟩ := id Pb
  obtain ⟨pz, qz, rz, fz, gz⟩ := id Pz
  go_wp2_with fail
  refine (right_no h2 _).mono ?_
  rintro e w2 ⟨rfl, hb2⟩
  replace Pa := Pa.below hb2
  replace Pb := Pb.below hb2
  replace Pz := Pz.below hb2
  replace B := below_of B hb2 (by first | omega | (simp; done) | (simp; omega))
  have hs2 := B.size
  obtain ⟨pa, qa, ra, fa, ga⟩ := id Pa
  obtain ⟨pb, qb, rb, fb, gb⟩ := id Pb
  obtain ⟨pz, qz, rz, fz, gz⟩ := id Pz
  go_wp2
  exact bodyPost_ret (v := .tuple #[.agg #[.int .i64 0, .int .i64 0], .int .i64 2]) (by simp [results, Try.results31, go_sem, pz, qz]) rfl ⟨rfl, ((B.setCell (by first | omega | (simp; done) | (simp; omega)) _).setCell (by first | omega | (simp; done) | (simp; omega)) _)⟩

theorem mulF_no1 (n d m e : Int) (h1 : ¬ FOk n d) (w : World) :
    Calls Try.prog 32 #[.agg #[.int .i64 n, .int .i64 d], .agg #[.int .i64 m, .int .i64 e]] w fun r w' =>
      r = .returned (.tuple #[.agg #[.int .i64 0, .int .i64 0], .int .i64 2]) ∧ Below w.heap.size w w' := by
  go_enter Try.func32, Try.ntmps32
  have Pa := (((FAt.new w (n) (d)).alloc (.cells #[.int .i64 (m), .int .i64 (e)] 50)).alloc (.cells #[.int .i64 (0), .int .i64 (0)] 50)).at_ (b' := w.heap.size) (by simp)
  have Pb := ((FAt.new (w.alloc (.cells #[.int .i64 (n), .int .i64 (d)] 50)) (m) (e)).alloc (.cells #[.int .i64 (0), .int .i64 (0)] 50)).at_ (b' := w.heap.size + 1) (by simp)
  have Pz := (FAt.new ((w.alloc (.cells #[.int .i64 (n), .int .i64 (d)] 50)).alloc (.cells #[.int .i64 (m), .int .i64 (e)] 50)) (0) (0)).at_ (b' := w.heap.size + 1 + 1) (by simp)
  have B := ((((Below.refl w.heap.size w).alloc (by first | omega | (simp; done) | (simp; omega)) (.cells #[.int .i64 (n), .int .i64 (d)] 50)).alloc (by first | omega | (simp; done) | (simp; omega)) (.cells #[.int .i64 (m), .int .i64 (e)] 50)).alloc (by first | omega | (simp; done) | (simp; omega)) (.cells #[.int .i64 (0), .int .i64 (0)] 50))
  go_wp2_with fail
  refine (right_no h1 _).mono ?_
  rintro e w1 ⟨rfl, hb1⟩
  replace Pa := Pa.below hb1
  replace Pb := Pb.below hb1
  replace Pz := Pz.below hb1
  replace B := below_of B hb1 (by first | omega | (simp; done) | (simp; omega))
  have hs1 := B.size
  obtain ⟨pa, qa, ra, fa, ga⟩ := id Pa
  obtain ⟨pb, qb, rb, fb, gb⟩ := id Pb
  obtain ⟨pz, qz, rz, fz, gz⟩ := id Pz
  go_wp2
  exact bodyPost_ret (v := .tuple #[.agg #[.int .i64 0, .int .i64 0], .int .i64 2]) (by simp [results, Try.results32, go_sem, pz, qz]) rfl ⟨rfl, ((B.setCell (by first | omega | (simp; done) | (simp; omega)) _).setCell (by first | omega | (simp; done) | (simp; omega)) _)⟩

theorem mulF_no2 (n d m e : Int) (h1 : FOk n d) (h2 : ¬ FOk m e) (w : World) :
    Calls Try.prog 32 #[.agg #[.int .i64 n, .int .i64 d], .agg #[.int .i64 m, .int .i64 e]] w fun r w' =>
      r = .returned (.tuple #[.agg #[.int .i64 0, .int .i64 0], .int .i64 2]) ∧ Below w.heap.size w w' := by
  go_enter Try.func32, Try.ntmps32
  have Pa := (((FAt.new w (n) (d)).alloc (.cells #[.int .i64 (m), .int .i64 (e)] 50)).alloc (.cells #[.int .i64 (0), .int .i64 (0)] 50)).at_ (b' := w.heap.size) (by simp)
  have Pb := ((FAt.new (w.alloc (.cells #[.int .i64 (n), .int .i64 (d)] 50)) (m) (e)).alloc (.cells #[.int .i64 (0), .int .i64 (0)] 50)).at_ (b' := w.heap.size + 1) (by simp)
  have Pz := (FAt.new ((w.alloc (.cells #[.int .i64 (n), .int .i64 (d)] 50)).alloc (.cells #[.int .i64 (m), .int .i64 (e)] 50)) (0) (0)).at_ (b' := w.heap.size + 1 + 1) (by simp)
  have B := ((((Below.refl w.heap.size w).alloc (by first | omega | (simp; done) | (simp; omega)) (.cells #[.int .i64 (n), .int .i64 (d)] 50)).alloc (by first | omega | (simp; done) | (simp; omega)) (.cells #[.int .i64 (m), .int .i64 (e)] 50)).alloc (by first | omega | (simp; done) | (simp; omega)) (.cells #[.int .i64 (0), .int .i64 (0)] 50))
  go_wp2_with fail
  refine (right_yes h1 _).mono ?_
  rintro e w1 ⟨rfl, hb1⟩
  replace Pa := Pa.below hb1
  replace Pb := Pb.below hb1
  replace Pz := Pz.below hb1
  replace B := below_of B hb1 (by first | omega | (simp; done) | (simp; omega))
  have hs1 := B.size
  obtain ⟨pa, qa, ra, fa, ga⟩ := id Pa
  obtain ⟨pb, qb, rb, fb, gb⟩ := id Pb
  obtain ⟨pz, qz, rz, fz, gz⟩ := id Pz
  go_wp2_with fail
  refine (right_no h2 _).mono ?_
  rintro e w2 ⟨rfl, hb2⟩
  replace Pa := Pa.below hb2
  replace Pb := Pb.below hb2
  replace Pz := Pz.below hb2
  replace B := below_of B hb2 (by first | omega | (simp; done) | (simp; omega))
  have hs2 := B.size
  obtain ⟨pa, qa, ra, fa, ga⟩ := id Pa
  obtain ⟨pb, qb, rb, fb, gb⟩ := id Pb
  obtain ⟨pz, qz, rz, fz, gz⟩ := id Pz
  go_wp2
  exact bodyPost_ret (v := .tuple #[.agg #[.int .i64 0, .int .i64 0], .int .i64 2]) (by simp [results, Try.results32, go_sem, pz, qz]) rfl ⟨rfl, ((B.setCell (by first | omega | (simp; done) | (simp; omega)) _).setCell (by first | omega | (simp; done) | (simp; omega)) _)⟩

end Go.Proofs.Ytfopcipapphogaa
