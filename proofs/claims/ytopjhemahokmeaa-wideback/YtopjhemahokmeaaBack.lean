/- WideBack of package weirhousekeep returns true for every argument: the statement WideBackSaid. -/
import Derived.Test.YtopjhemahokmeaaAlive
namespace Go.Proofs.Ytopjhemahokmeaa
open Go.RowKit

namespace Back
theorem lo_back {al bl : Int} (h2 : Word al) (h4 : Word bl) : dL (sL al bl) bl = al := by
  obtain ⟨_, _⟩ := h2; obtain ⟨_, _⟩ := h4; unfold dL sL; omega
theorem hi_back {ah al bh bl : Int} (h1 : Word ah) (h2 : Word al) (h3 : Word bh) (h4 : Word bl) : dH (sH ah al bh bl) (sL al bl) bh bl = ah := by
  obtain ⟨_, _⟩ := h1; obtain ⟨_, _⟩ := h2; obtain ⟨_, _⟩ := h3; obtain ⟨_, _⟩ := h4
  unfold dH sH sL bor; split <;> omega
theorem under_over {ah al bh bl : Int} (h1 : Word ah) (h2 : Word al) (h3 : Word bh) (h4 : Word bl) : dB (sH ah al bh bl) (sL al bl) bh bl = sC ah al bh bl := by
  obtain ⟨_, _⟩ := h1; obtain ⟨_, _⟩ := h2; obtain ⟨_, _⟩ := h3; obtain ⟨_, _⟩ := h4
  unfold dB sC sH sL bor
  rw [Bool.eq_iff_iff, bne_iff_ne, bne_iff_ne]
  split <;> split <;> omega
theorem comm_hi (ah al bh bl : Int) : sH bh bl ah al = sH ah al bh bl := by unfold sH; rw [Int.add_comm bh, Int.add_comm bl]
theorem comm_lo (al bl : Int) : sL bl al = sL al bl := by unfold sL; rw [Int.add_comm]
theorem comm_c (ah al bh bl : Int) : sC bh bl ah al = sC ah al bh bl := by unfold sC; rw [Int.add_comm bh, Int.add_comm bl]
theorem assoc_lo (al bl cl : Int) : sL (sL al bl) cl = sL al (sL bl cl) := by unfold sL; omega
theorem assoc_hi (ah al bh bl ch cl : Int) : sH (sH ah al bh bl) (sL al bl) ch cl = sH ah al (sH bh bl ch cl) (sL bl cl) := by unfold sH sL; omega
theorem less_over {ah al bh bl : Int} (h1 : Word ah) (h2 : Word al) (h3 : Word bh) (h4 : Word bl) : decide (cW (sH ah al bh bl) (sL al bl) ah al < 0) = sC ah al bh bl := by
  obtain ⟨_, _⟩ := h1; obtain ⟨_, _⟩ := h2; obtain ⟨_, _⟩ := h3; obtain ⟨_, _⟩ := h4
  unfold cW sC sH sL cmpI
  rw [Bool.eq_iff_iff, bne_iff_ne, decide_eq_true_eq]
  repeat' split
  all_goals omega
end Back

set_option maxHeartbeats 2000000 in
theorem back_walk (ah al bh bl ch cl : Int) (a1 : Word ah) (a2 : Word al) (b1 : Word bh) (b2 : Word bl) (c1 : Word ch) (c2 : Word cl) (w : World) :
    Calls Try.prog 5 #[.agg #[.int .u64 ah, .int .u64 al], .agg #[.int .u64 bh, .int .u64 bl], .agg #[.int .u64 ch, .int .u64 cl]] w fun e w' => e = .returned (.bool true) ∧ Below w.heap.size w w' := by
  have s1 : Word (sH ah al bh bl) := word_mod _
  have s2 : Word (sL al bl) := word_mod _
  have y1 : Word (sH bh bl ch cl) := word_mod _
  have y2 : Word (sL bl cl) := word_mod _
  go_enter Try.func5, Try.ntmps5
  have Pa := (((At.new w (ah) (al)).alloc (.cells #[.int .u64 bh, .int .u64 bl] 24)).alloc (.cells #[.int .u64 ch, .int .u64 cl] 24)).at_ (b' := w.heap.size) (by simp)
  have Pb := ((At.new (w.alloc (.cells #[.int .u64 ah, .int .u64 al] 24)) (bh) (bl)).alloc (.cells #[.int .u64 ch, .int .u64 cl] 24)).at_ (b' := w.heap.size + 1) (by simp)
  have Pc := (At.new ((w.alloc (.cells #[.int .u64 ah, .int .u64 al] 24)).alloc (.cells #[.int .u64 bh, .int .u64 bl] 24)) (ch) (cl)).at_ (b' := w.heap.size + 1 + 1) (by simp)
  have B := ((((Below.refl w.heap.size w).alloc (by first | omega | (simp; done) | (simp; omega)) (.cells #[.int .u64 ah, .int .u64 al] 24)).alloc (by first | omega | (simp; done) | (simp; omega)) (.cells #[.int .u64 bh, .int .u64 bl] 24)).alloc (by first | omega | (simp; done) | (simp; omega)) (.cells #[.int .u64 ch, .int .u64 cl] 24))
  go_wp2_with fail
  refine (alive1 _).mono ?_
  rintro e w1 ⟨rfl, hb1⟩
  replace Pa := (Pa).below hb1
  replace Pb := (Pb).below hb1
  replace Pc := (Pc).below hb1
  replace B := below_of B hb1 (by first | omega | (simp; done) | (simp; omega))
  have hs1 := B.size
  obtain ⟨pa, qa, ra, fa, ga⟩ := id Pa
  obtain ⟨pb, qb, rb, fb, gb⟩ := id Pb
  obtain ⟨pc, qc, rc, fc, gc⟩ := id Pc
  go_wp2_with fail
  refine (add_any ah al bh bl a1 a2 b1 b2 _).mono ?_
  rintro e w2 ⟨rfl, hb2⟩
  replace Pa := (Pa).below hb2
  replace Pb := (Pb).below hb2
  replace Pc := (Pc).below hb2
  replace B := below_of B hb2 (by first | omega | (simp; done) | (simp; omega))
  have hs2 := B.size
  obtain ⟨pa, qa, ra, fa, ga⟩ := id Pa
  obtain ⟨pb, qb, rb, fb, gb⟩ := id Pb
  obtain ⟨pc, qc, rc, fc, gc⟩ := id Pc
  have Ps := At.new w2 ((sH ah al bh bl)) ((sL al bl))
  go_wp2_with fail
  refine (sub_any _ _ bh bl s1 s2 b1 b2 _).mono ?_
  rintro e w3 ⟨rfl, hb3⟩
  replace Pa := (Pa.alloc (.cells #[.int .u64 (sH ah al bh bl), .int .u64 (sL al bl)] 24)).below hb3
  replace Pb := (Pb.alloc (.cells #[.int .u64 (sH ah al bh bl), .int .u64 (sL al bl)] 24)).below hb3
  replace Pc := (Pc.alloc (.cells #[.int .u64 (sH ah al bh bl), .int .u64 (sL al bl)] 24)).below hb3
  replace Ps := (Ps).below hb3
  replace B := below_of (B.alloc (by omega) (.cells #[.int .u64 (sH ah al bh bl), .int .u64 (sL al bl)] 24)) hb3 (by first | omega | (simp; done) | (simp; omega))
  have hs3 := B.size
  obtain ⟨pa, qa, ra, fa, ga⟩ := id Pa
  obtain ⟨pb, qb, rb, fb, gb⟩ := id Pb
  obtain ⟨pc, qc, rc, fc, gc⟩ := id Pc
  obtain ⟨ps, qs, rs, fs, gs⟩ := id Ps
  have Pd := At.new w3 ((dH (sH ah al bh bl) (sL al bl) bh bl)) ((dL (sL al bl) bl))
  go_wp2_with fail
  refine (add_any bh bl ah al b1 b2 a1 a2 _).mono ?_
  rintro e w4 ⟨rfl, hb4⟩
  replace Pa := (Pa.alloc (.cells #[.int .u64 (dH (sH ah al bh bl) (sL al bl) bh bl), .int .u64 (dL (sL al bl) bl)] 24)).below hb4
  replace Pb := (Pb.alloc (.cells #[.int .u64 (dH (sH ah al bh bl) (sL al bl) bh bl), .int .u64 (dL (sL al bl) bl)] 24)).below hb4
  replace Pc := (Pc.alloc (.cells #[.int .u64 (dH (sH ah al bh bl) (sL al bl) bh bl), .int .u64 (dL (sL al bl) bl)] 24)).below hb4
  replace Ps := (Ps.alloc (.cells #[.int .u64 (dH (sH ah al bh bl) (sL al bl) bh bl), .int .u64 (dL (sL al bl) bl)] 24)).below hb4
  replace Pd := (Pd).below hb4
  replace B := below_of (B.alloc (by omega) (.cells #[.int .u64 (dH (sH ah al bh bl) (sL al bl) bh bl), .int .u64 (dL (sL al bl) bl)] 24)) hb4 (by first | omega | (simp; done) | (simp; omega))
  have hs4 := B.size
  obtain ⟨pa, qa, ra, fa, ga⟩ := id Pa
  obtain ⟨pb, qb, rb, fb, gb⟩ := id Pb
  obtain ⟨pc, qc, rc, fc, gc⟩ := id Pc
  obtain ⟨ps, qs, rs, fs, gs⟩ := id Ps
  obtain ⟨pd, qd, rd, fd, gd⟩ := id Pd
  have Pt := At.new w4 ((sH bh bl ah al)) ((sL bl al))
  go_wp2_with fail
  refine (add_any _ _ ch cl s1 s2 c1 c2 _).mono ?_
  rintro e w5 ⟨rfl, hb5⟩
  replace Pa := (Pa.alloc (.cells #[.int .u64 (sH bh bl ah al), .int .u64 (sL bl al)] 24)).below hb5
  replace Pb := (Pb.alloc (.cells #[.int .u64 (sH bh bl ah al), .int .u64 (sL bl al)] 24)).below hb5
  replace Pc := (Pc.alloc (.cells #[.int .u64 (sH bh bl ah al), .int .u64 (sL bl al)] 24)).below hb5
  replace Ps := (Ps.alloc (.cells #[.int .u64 (sH bh bl ah al), .int .u64 (sL bl al)] 24)).below hb5
  replace Pd := (Pd.alloc (.cells #[.int .u64 (sH bh bl ah al), .int .u64 (sL bl al)] 24)).below hb5
  replace Pt := (Pt).below hb5
  replace B := below_of (B.alloc (by omega) (.cells #[.int .u64 (sH bh bl ah al), .int .u64 (sL bl al)] 24)) hb5 (by first | omega | (simp; done) | (simp; omega))
  have hs5 := B.size
  obtain ⟨pa, qa, ra, fa, ga⟩ := id Pa
  obtain ⟨pb, qb, rb, fb, gb⟩ := id Pb
  obtain ⟨pc, qc, rc, fc, gc⟩ := id Pc
  obtain ⟨ps, qs, rs, fs, gs⟩ := id Ps
  obtain ⟨pd, qd, rd, fd, gd⟩ := id Pd
  obtain ⟨pt, qt, rt, ft, gt⟩ := id Pt
  have Px := At.new w5 ((sH (sH ah al bh bl) (sL al bl) ch cl)) ((sL (sL al bl) cl))
  go_wp2_with fail
  refine (add_any bh bl ch cl b1 b2 c1 c2 _).mono ?_
  rintro e w6 ⟨rfl, hb6⟩
  replace Pa := (Pa.alloc (.cells #[.int .u64 (sH (sH ah al bh bl) (sL al bl) ch cl), .int .u64 (sL (sL al bl) cl)] 24)).below hb6
  replace Pb := (Pb.alloc (.cells #[.int .u64 (sH (sH ah al bh bl) (sL al bl) ch cl), .int .u64 (sL (sL al bl) cl)] 24)).below hb6
  replace Pc := (Pc.alloc (.cells #[.int .u64 (sH (sH ah al bh bl) (sL al bl) ch cl), .int .u64 (sL (sL al bl) cl)] 24)).below hb6
  replace Ps := (Ps.alloc (.cells #[.int .u64 (sH (sH ah al bh bl) (sL al bl) ch cl), .int .u64 (sL (sL al bl) cl)] 24)).below hb6
  replace Pd := (Pd.alloc (.cells #[.int .u64 (sH (sH ah al bh bl) (sL al bl) ch cl), .int .u64 (sL (sL al bl) cl)] 24)).below hb6
  replace Pt := (Pt.alloc (.cells #[.int .u64 (sH (sH ah al bh bl) (sL al bl) ch cl), .int .u64 (sL (sL al bl) cl)] 24)).below hb6
  replace Px := (Px).below hb6
  replace B := below_of (B.alloc (by omega) (.cells #[.int .u64 (sH (sH ah al bh bl) (sL al bl) ch cl), .int .u64 (sL (sL al bl) cl)] 24)) hb6 (by first | omega | (simp; done) | (simp; omega))
  have hs6 := B.size
  obtain ⟨pa, qa, ra, fa, ga⟩ := id Pa
  obtain ⟨pb, qb, rb, fb, gb⟩ := id Pb
  obtain ⟨pc, qc, rc, fc, gc⟩ := id Pc
  obtain ⟨ps, qs, rs, fs, gs⟩ := id Ps
  obtain ⟨pd, qd, rd, fd, gd⟩ := id Pd
  obtain ⟨pt, qt, rt, ft, gt⟩ := id Pt
  obtain ⟨px, qx, rx, fx, gx⟩ := id Px
  have Py := At.new w6 ((sH bh bl ch cl)) ((sL bl cl))
  go_wp2_with fail
  refine (add_any ah al _ _ a1 a2 y1 y2 _).mono ?_
  rintro e w7 ⟨rfl, hb7⟩
  replace Pa := (Pa.alloc (.cells #[.int .u64 (sH bh bl ch cl), .int .u64 (sL bl cl)] 24)).below hb7
  replace Pb := (Pb.alloc (.cells #[.int .u64 (sH bh bl ch cl), .int .u64 (sL bl cl)] 24)).below hb7
  replace Pc := (Pc.alloc (.cells #[.int .u64 (sH bh bl ch cl), .int .u64 (sL bl cl)] 24)).below hb7
  replace Ps := (Ps.alloc (.cells #[.int .u64 (sH bh bl ch cl), .int .u64 (sL bl cl)] 24)).below hb7
  replace Pd := (Pd.alloc (.cells #[.int .u64 (sH bh bl ch cl), .int .u64 (sL bl cl)] 24)).below hb7
  replace Pt := (Pt.alloc (.cells #[.int .u64 (sH bh bl ch cl), .int .u64 (sL bl cl)] 24)).below hb7
  replace Px := (Px.alloc (.cells #[.int .u64 (sH bh bl ch cl), .int .u64 (sL bl cl)] 24)).below hb7
  replace Py := (Py).below hb7
  replace B := below_of (B.alloc (by omega) (.cells #[.int .u64 (sH bh bl ch cl), .int .u64 (sL bl cl)] 24)) hb7 (by first | omega | (simp; done) | (simp; omega))
  have hs7 := B.size
  obtain ⟨pa, qa, ra, fa, ga⟩ := id Pa
  obtain ⟨pb, qb, rb, fb, gb⟩ := id Pb
  obtain ⟨pc, qc, rc, fc, gc⟩ := id Pc
  obtain ⟨ps, qs, rs, fs, gs⟩ := id Ps
  obtain ⟨pd, qd, rd, fd, gd⟩ := id Pd
  obtain ⟨pt, qt, rt, ft, gt⟩ := id Pt
  obtain ⟨px, qx, rx, fx, gx⟩ := id Px
  obtain ⟨py, qy, ry, fy, gy⟩ := id Py
  have Pz := At.new w7 ((sH ah al (sH bh bl ch cl) (sL bl cl))) ((sL al (sL bl cl)))
  have e1 := Back.lo_back a2 b2
  have e2 := Back.hi_back a1 a2 b1 b2
  have e3 := Back.under_over a1 a2 b1 b2
  have e4 := Back.comm_hi ah al bh bl
  have e5 := Back.comm_lo al bl
  have e6 := Back.comm_c ah al bh bl
  have e7 := Back.assoc_lo al bl cl
  have e8 := Back.assoc_hi ah al bh bl ch cl
  have e9 := Back.less_over a1 a2 b1 b2
  go_wp2_with fail
  refine (cmp_any _ _ _ _ _).mono ?_
  rintro e w8 ⟨rfl, hb8⟩
  go_wp2
  go_ret
  exact ⟨rfl, below_of (B.alloc (by omega) _) hb8 (by first | omega | (simp; done) | (simp; omega))⟩
end Go.Proofs.Ytopjhemahokmeaa
