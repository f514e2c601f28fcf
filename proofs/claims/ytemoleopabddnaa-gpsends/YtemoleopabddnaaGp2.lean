/- Package gps: sentUntil. -/
import Derived.Test.YtemoleopabddnaaGp1
namespace Go.Proofs.Ytemoleopabddnaa
open Go.RowKit Go.Maps

theorem wrap_in {x : Int} (h0 : -9223372036854775808 ≤ x) (h1 : x ≤ 9223372036854775807) : IntKind.i64.wrap x = x := by
  rw [IntKind.wrap_i64]
  omega
theorem mul_wrap {a d : Int} (ha : 0 ≤ a ∧ a ≤ 16777216) (hd : -16777216 ≤ d ∧ d ≤ 16777216) : IntKind.i64.wrap (a * d) = a * d := by
  have h1 := Int.mul_le_mul_of_nonneg_left hd.2 ha.1
  have h2 := Int.mul_le_mul_of_nonneg_left hd.1 ha.1
  have h3 := Int.mul_le_mul_of_nonneg_right ha.2 (show (0 : Int) ≤ 16777216 by decide)
  exact wrap_in (by omega) (by omega)
/-- What goes of j until i is done, times its weight. -/
def gt (xs ys : List Int) (i j : Nat) : Int := min (fn xs j * fn ys i) (fn xs i * fn ys j)
theorem gt_su (xs ys : List Int) (i n : Nat) : su (gt xs ys i) n = gT (fn xs) (fn ys) n i := su_congr fun j _ => by unfold gt; rw [Int.mul_comm (fn xs i)]
theorem gt_bound {xs ys : List Int} (hR : Right xs ys) (i j : Nat) : 0 ≤ gt xs ys i j ∧ gt xs ys i j ≤ 1048576000 := by
  have h1 := hR.want0 i
  have h2 := hR.want0 j
  have h3 := hR.weight0 i
  have h4 := hR.weight0 j
  have k1 := Int.mul_nonneg h2.1 h3.1
  have k2 := Int.mul_nonneg h1.1 h4.1
  have k3 : fn xs j * fn ys i ≤ 1048576 * 1000 := Int.mul_le_mul h2.2 h3.2 h3.1 (by decide)
  unfold gt
  omega
theorem gt_sum {xs ys : List Int} (hR : Right xs ys) (i : Nat) {n : Nat} (hn : n ≤ 16) : 0 ≤ su (gt xs ys i) n ∧ su (gt xs ys i) n ≤ 16777216000 := by
  have h1 : su (gt xs ys i) n ≤ 1048576000 * (n : Int) := su_bound fun k _ => (gt_bound hR i k).2
  exact ⟨su_nonneg fun k _ => (gt_bound hR i k).1, by omega⟩

set_option maxRecDepth 100000 in
set_option maxHeartbeats 4000000 in
theorem sent_any {w : World} {A B : Option Addr} {xs ys : List Int} (hx : IntsIn w A xs) (hy : IntsIn w B ys) (hR : Right xs ys) (cx cy : Nat) {i : Nat} (hi : i < xs.length) :
    Calls Try.prog 19 #[.int .i64 (i : Int), .slice A xs.length cx, .slice B ys.length cy] w fun e w' => e = .returned (.int .i64 (gT (fn xs) (fn ys) xs.length i)) ∧ ∃ q, w' = w.drewN q := by
  rw [← gt_su]
  obtain ⟨n, hn⟩ : ∃ n, xs.length = n := ⟨_, rfl⟩
  have hm : ys.length = n := by rw [hR.len, hn]
  have h16 : n ≤ 16 := by rw [← hn]; exact hR.few
  rw [hn] at hi
  obtain ⟨b0, o0, x, rfl, hxi, cxi, _⟩ := hx.next (i := i) (by omega)
  obtain ⟨b1, o1, y, rfl, hyi, cyi, _⟩ := hy.next (i := i) (by omega)
  have hfx := fn_at hxi
  have hfy := fn_at hyi
  have hbx := hR.want0 i
  have hby := hR.weight0 i
  rw [hfx] at hbx
  rw [hfy] at hby
  have HPX := Lib.hid hx
  have HPY := Lib.hid hy
  have HRT := Lib.hid hR
  have HN := Lib.hid (And.intro hn hm)
  have HFF := Lib.hid (And.intro hfx hfy)
  have HSB := Lib.hid (fun j (hj : j ≤ n) => gt_sum hR i (n := j) (by omega))
  rw [hn, hm]
  obtain ⟨G, hG⟩ : ∃ G, gt xs ys i = G := ⟨_, rfl⟩
  have HG := Lib.hid hG
  rw [hG] at HSB ⊢
  have i0 : (i : Int) < (n : Int) := by omega
  clear hx hy hR hn hm hxi hyi hfx hfy hG
  go_enter Try.func19, Try.ntmps19
  go_wp2_with fail
  go_loopg [7, 11] n (fun k s c wr => ∃ (j t : Nat) (S : Int), s = .int .i64 S ∧ c = .int .i64 (j : Int) ∧ j + k = n ∧ wr = w.drewN t ∧ Hid (S = su G j))
  case atStart => exact ⟨0, 0, 0, rfl, rfl, by omega, rfl, Lib.hid rfl⟩
  case round =>
    obtain ⟨j, t, S, rfl, rfl, hjk, rfl, HI⟩ := hrel
    cases gk with
    | zero =>
      obtain rfl : j = n := by omega
      clear HPX HPY HRT HN HFF HSB HG
      go_wp2_with fail
      go_ret
      exact ⟨ret_i64 HI.out, _, rfl⟩
    | succ k =>
      have hj : j < n := by omega
      have j1 : (j : Int) < (n : Int) := by omega
      obtain ⟨b2, o2, u, e2, hu, cu, _⟩ := HPX.out.next (i := j) (by rw [HN.out.1]; exact hj)
      obtain ⟨b3, o3, v, e3, hv, cv, _⟩ := HPY.out.next (i := j) (by rw [HN.out.2]; exact hj)
      injection e2 with e2
      injection e3 with e3
      simp only [Addr.mk.injEq, and_true] at e2 e3
      obtain ⟨rfl, rfl⟩ := e2
      obtain ⟨rfl, rfl⟩ := e3
      have hfu := fn_at hu
      have hfv := fn_at hv
      have hbu := HRT.out.want0 j
      have hbv := HRT.out.weight0 j
      rw [hfu] at hbu
      rw [hfv] at hbv
      obtain ⟨P, q1, hP⟩ : ∃ P, IntKind.i64.wrap (u * y) = P ∧ P = u * y := ⟨_, rfl, mul_wrap (by omega) (by omega)⟩
      obtain ⟨Q, q2, hQ⟩ : ∃ Q, IntKind.i64.wrap (x * v) = Q ∧ Q = x * v := ⟨_, rfl, mul_wrap (by omega) (by omega)⟩
      obtain ⟨M, hM⟩ : ∃ M, min P Q = M := ⟨_, rfl⟩
      have HM : Hid (G j = M) := Lib.hid (by rw [← HG.out]; unfold gt; rw [hfu, hfv, HFF.out.1, HFF.out.2, ← hP, ← hQ]; exact hM)
      have hs1 := HSB.out (j + 1) (by omega)
      rw [su_succ, ← HI.out, HM.out] at hs1
      have m1 : (if Q < P then Q else P) = M := by rw [← hM]; split <;> omega
      obtain ⟨S2, q3, hS2⟩ : ∃ S2, wrap64 (S + M) = S2 ∧ S2 = S + M := ⟨_, rfl, IntWalk.wrap64_in _ (by constructor <;> omega)⟩
      have HS2 : Hid (S2 = su G (j + 1)) := Lib.hid (by rw [hS2, su_succ, HM.out, HI.out])
      have HJK := Lib.hid hjk
      clear hu hv hfu hfv hbu hbv hP hQ hs1 hS2 hM HM HI HG HRT HPX HPY HFF HSB HN hjk
      go_wp2_with fail
      go_quiet (fail)
      go_wp2_with fail
      go_roundg k
      case measure => omega
      case rel => exact ⟨j + 1, t + nq, S2, by rw [q3], by go_num, by have := HJK.out; omega, rfl, HS2⟩
end Go.Proofs.Ytemoleopabddnaa
