/- The reference: KServe. -/
import Derived.Test.YtdlmiiekcpbdcaaCv7
import Derived.Test.YtdlmiiekcpbdcaaIn5
namespace Go.Proofs.Ytdlmiiekcpbdcaa
open Go.RowKit Go.Maps

/-- Between two rounds: the service in the first block, the numbers of one's own behind it. -/
structure KInv (w wr : World) (l s : Int) (v : Value) (done : List Int) : Prop where
  below : Below w.heap.size w wr
  ser : SerAt wr w.heap.size l s
  own : OwnI (w.heap.size + 1) wr v done
theorem KInv.put {w wr : World} {l s : Int} {v : Value} {done : List Int} (h : KInv w wr l s v done) (u : Int) (hn : (done.length + 1) * 8 ≤ 140737488355328) :
    ∃ v' W, (∀ ty, (Builtin.append_ #[35, 35] ty #[v, .slice (some ⟨wr.heap.size, 0, none⟩) 1 1]).run Try.prog (wr.alloc (.cells #[.int .i64 u] 3)) = .ok v' W) ∧ KInv w W l s v' (done ++ [u]) := by
  have hs := h.ser.lt
  have hb := h.below
  obtain ⟨v', W, hr, ho, hk, _, hsz, h1, h2, h3⟩ := ints_append h.own u (by omega) hn
  refine ⟨v', W, hr, ⟨⟨h1.trans hb.os, h2.trans hb.tape, h3.trans hb.output, Nat.le_trans hb.size hsz, fun k hk' => (hk k (by omega)).trans (hb.block k hk')⟩, ?_, ho⟩⟩
  exact (hk _ (by omega)).trans h.ser
/-- What KServe answers. -/
def KServed (w : World) (d : List Int) (e : Ending) (w' : World) : Prop := ∃ R cR, e = .returned (.slice R d.length cR) ∧ IntsIn w' R d ∧ Below w.heap.size w w'

set_option maxRecDepth 100000 in
set_option maxHeartbeats 16000000 in
theorem kserve_any {w : World} {xs : List Int} {A : Option Addr} (hP : IntsIn w A xs) (cap : Nat) {l s : Int} (hl : 0 ≤ l ∧ l ≤ 1048576) (hs : 0 ≤ s ∧ s ≤ 1048576) (ht : wtr xs = false) :
    Calls Try.prog 20 #[.agg #[.int .i64 l, .int .i64 s], .slice A xs.length cap] w (KServed w (srv l s 0 0 xs)) := by
  have hx := laidS_at w l s
  have HX : Hid (KInv w (laidS w l s) l s (.slice none 0 0) []) := Lib.hid ⟨hx.2.1, hx.1, OwnI.nil _ _⟩
  clear hx
  have HPB := Lib.hid (fun W (hW : Below w.heap.size w W) => hP.below hW)
  obtain ⟨n, hn⟩ : ∃ n, xs.length = n := ⟨_, rfl⟩
  have HN := Lib.hid hn
  have ht2 := wtr_false.1 ht
  have hn4 : n ≤ 400 := by omega
  have HT := Lib.hid ht2.2
  rw [hn]
  have HZ : Hid (∀ W v d, srv l s 0 0 xs = d → d.length = n → OwnI (w.heap.size + 1) W v d → Below w.heap.size w W → KServed w (srv l s 0 0 xs) (.returned v) W) := Lib.hid (fun W v d he hd ho hb => by
    obtain ⟨A', cap', rfl, hi⟩ := ho.form (by omega)
    rw [he]
    exact ⟨A', cap', rfl, hi, hb⟩)
  clear hP hn ht ht2
  generalize KServed w (srv l s 0 0 xs) = D at *
  go_enter Try.func20, Try.ntmps20
  go_upto_region 1 with fail
  change Code.wp _ _ _ _ (laidS w l s)
  generalize laidS w l s = m at *
  go_wp2_with fail
  go_loopg [5, 6, 7, 8, 14] n (fun z v pin pg pk c wr => ∃ (i : Nat) (In Gn k : Int) (done : List Int) (vv : Value), vv = v ∧ pin = .int .i64 In ∧ pg = .int .i64 Gn ∧ pk = .int .i64 k ∧ c = .int .i64 (i : Int) ∧ i + z = n ∧ 0 ≤ Gn ∧ Gn ≤ In ∧ In ≤ 1048576 * (i : Int) ∧ 0 ≤ k ∧ k ≤ (i : Int) ∧ Hid (KInv w wr l s vv done ∧ Srv l s xs i (In - Gn) k done))
  case atStart => exact ⟨0, 0, 0, 0, [], _, rfl, rfl, rfl, rfl, rfl, by omega, by omega, by omega, by omega, by omega, by omega, Lib.hid ⟨HX.out, Srv.start l s xs⟩⟩
  case round =>
    clear HX
    obtain ⟨i, In, Gn, k, done, v, rfl, rfl, rfl, rfl, rfl, hik, hg0, hg1, hin, hk0, hk1, HE⟩ := hrel
    cases gk with
    | zero =>
      obtain rfl : i = n := by omega
      have he := HE.out.2
      have hdl := he.len
      rw [← HN.out] at he
      have HR := Lib.hid (HZ.out wr v _ he.last hdl HE.out.1.own HE.out.1.below)
      clear he hdl HZ HE HPB HT HN
      go_wp2_with fail
      exact HR.out
    | succ k2 =>
      have hi : i < n := by omega
      have i1 : (i : Int) < (n : Int) := by omega
      obtain ⟨b0, off, x, rfl, hx, hat, _⟩ := (HPB.out _ HE.out.1.below).next (i := i) (by have := HN.out; omega)
      have hx2 := HT.out x (List.mem_of_getElem? hx)
      have hnx := (HE.out.2.next hx).1
      have hdl := HE.out.2.len
      obtain ⟨c0, c1⟩ := HE.out.1.ser.cells
      obtain ⟨J, hJ⟩ : ∃ J, In + x = J := ⟨_, rfl⟩
      have q1 : wrap64 (In + x) = J := by rw [hJ]; exact IntWalk.wrap64_in _ (by constructor <;> omega)
      have q2 : wrap64 (k + 1) = k + 1 := IntWalk.wrap64_in _ (by constructor <;> omega)
      have q0 : wrap64 Gn = Gn := IntWalk.wrap64_in _ (by constructor <;> omega)
      have hqx : In - Gn + x = J - Gn := by omega
      by_cases h1 : J = Gn
      · have hv : sv l s (In - Gn) k x = 0 := by unfold sv; rw [hqx]; split <;> omega
        have hq : sq l s (In - Gn) k x = 0 := by unfold sq; rw [hv]; omega
        have hk : sk l s (In - Gn) k x = 0 := by unfold sk; rw [hq, if_pos rfl]
        rw [hv, hq, hk] at hnx
        obtain ⟨v', W, hr, hki⟩ := HE.out.1.put 0 (by omega)
        have HQ := Lib.hid (And.intro hki hnx)
        have HR := Lib.hid hr
        have e1 : (J == Gn) = true := by simpa using h1
        have e2 : (Gn == J) = true := by simpa using h1.symm
        have e3 : ¬ l < 0 := by omega
        have e4 : wrap64 (Gn + 0) = Gn := by rw [Int.add_zero]; exact q0
        have HJ := Lib.hid (show J = In + x ∧ (Gn - Gn = 0) by omega)
        have HBD : Hid (0 ≤ Gn ∧ Gn ≤ J ∧ J ≤ 1048576 * ((i + 1 : Nat) : Int)) := Lib.hid (by omega)
        have HQQ : Hid (J - Gn = 0) := Lib.hid (by omega)
        clear hv hq hk hx hnx hki hr HE hJ hqx HT HPB HN hdl hx2 hin h1
        go_wp2_with (at_builtin; refine wpList_append_eq rfl (.tmp 45) (.tmp 47) 35 35 rfl rfl rfl (HR.out _) ?_)
        go_roundg k2
        case measure => omega
        case rel => exact ⟨i + 1, J, Gn, 0, _, _, rfl, rfl, rfl, rfl, by go_num, by omega, HBD.out.1, HBD.out.2.1, HBD.out.2.2, by omega, by omega, Lib.hid ⟨HQ.out.1, by first | exact HQ.out.2 | (rw [HQQ.out]; exact HQ.out.2)⟩⟩
      · have e1 : (J == Gn) = false := by simpa using h1
        by_cases h2 : l < k + 1
        · have q3 : wrap64 (J - Gn) = J - Gn := IntWalk.wrap64_in _ (by constructor <;> omega)
          by_cases h3 : J - Gn ≤ s
          · have hv : sv l s (In - Gn) k x = (J - Gn) := by unfold sv; rw [hqx, if_pos h2]; omega
            have hq : sq l s (In - Gn) k x = 0 := by unfold sq; rw [hv]; omega
            have hk : sk l s (In - Gn) k x = 0 := by unfold sk; rw [hq, if_pos rfl]
            rw [hv, hq, hk] at hnx
            obtain ⟨v', W, hr, hki⟩ := HE.out.1.put (J - Gn) (by omega)
            have HQ := Lib.hid (And.intro hki hnx)
            have HR := Lib.hid hr
            have e2 : ¬ s < J - Gn := by omega
            have e3 : wrap64 (Gn + (J - Gn)) = J := by rw [IntWalk.wrap64_in _ (by constructor <;> omega)]; omega
            have e4 : (J == J) = true := by simp
            have HJ := Lib.hid (show J = In + x ∧ (J - Gn = (J - Gn)) by omega)
            have HBD : Hid (0 ≤ J ∧ J ≤ J ∧ J ≤ 1048576 * ((i + 1 : Nat) : Int)) := Lib.hid (by omega)
            have HQQ : Hid (J - J = 0) := Lib.hid (by omega)
            clear hv hq hk hx hnx hki hr HE hJ hqx HT HPB HN hdl hx2 hin
            go_wp2_with (at_builtin; refine wpList_append_eq rfl (.tmp 45) (.tmp 47) 35 35 rfl rfl rfl (HR.out _) ?_)
            go_roundg k2
            case measure => omega
            case rel => exact ⟨i + 1, J, J, 0, _, _, rfl, rfl, rfl, rfl, by go_num, by omega, HBD.out.1, HBD.out.2.1, HBD.out.2.2, by omega, by omega, Lib.hid ⟨HQ.out.1, by first | exact HQ.out.2 | (rw [HQQ.out]; exact HQ.out.2)⟩⟩
          · have hv : sv l s (In - Gn) k x = s := by unfold sv; rw [hqx, if_pos h2]; omega
            have hq : sq l s (In - Gn) k x = (J - Gn - s) := by unfold sq; rw [hv]; omega
            have hk : sk l s (In - Gn) k x = (k + 1) := by unfold sk; rw [hq, if_neg (by omega)]
            rw [hv, hq, hk] at hnx
            obtain ⟨v', W, hr, hki⟩ := HE.out.1.put s (by omega)
            have HQ := Lib.hid (And.intro hki hnx)
            have HR := Lib.hid hr
            have e2 : s < J - Gn := by omega
            have e3 : wrap64 (Gn + s) = Gn + s := IntWalk.wrap64_in _ (by constructor <;> omega)
            have e4 : (Gn + s == J) = false := by simp; omega
            have HJ := Lib.hid (show J = In + x ∧ ((Gn + s) - Gn = s) by omega)
            have HBD : Hid (0 ≤ (Gn + s) ∧ (Gn + s) ≤ J ∧ J ≤ 1048576 * ((i + 1 : Nat) : Int)) := Lib.hid (by omega)
            have HQQ : Hid (J - (Gn + s) = (J - Gn - s)) := Lib.hid (by omega)
            clear hv hq hk hx hnx hki hr HE hJ hqx HT HPB HN hdl hx2 hin
            go_wp2_with (at_builtin; refine wpList_append_eq rfl (.tmp 45) (.tmp 47) 35 35 rfl rfl rfl (HR.out _) ?_)
            go_roundg k2
            case measure => omega
            case rel => exact ⟨i + 1, J, (Gn + s), (k + 1), _, _, rfl, rfl, rfl, rfl, by go_num, by omega, HBD.out.1, HBD.out.2.1, HBD.out.2.2, by omega, by omega, Lib.hid ⟨HQ.out.1, by first | exact HQ.out.2 | (rw [HQQ.out]; exact HQ.out.2)⟩⟩
        · have hv : sv l s (In - Gn) k x = 0 := by unfold sv; rw [if_neg h2]
          have hq : sq l s (In - Gn) k x = (J - Gn) := by unfold sq; rw [hv]; omega
          have hk : sk l s (In - Gn) k x = (k + 1) := by unfold sk; rw [hq, if_neg (by omega)]
          rw [hv, hq, hk] at hnx
          obtain ⟨v', W, hr, hki⟩ := HE.out.1.put 0 (by omega)
          have HQ := Lib.hid (And.intro hki hnx)
          have HR := Lib.hid hr
          have e2 : (Gn == J) = false := by simp; omega
          have e4 : wrap64 (Gn + 0) = Gn := by rw [Int.add_zero]; exact q0
          have HJ := Lib.hid (show J = In + x ∧ (Gn - Gn = 0) by omega)
          have HBD : Hid (0 ≤ Gn ∧ Gn ≤ J ∧ J ≤ 1048576 * ((i + 1 : Nat) : Int)) := Lib.hid (by omega)
          have HQQ : Hid (J - Gn = (J - Gn)) := Lib.hid (by omega)
          clear hv hq hk hx hnx hki hr HE hJ hqx HT HPB HN hdl hx2 hin
          go_wp2_with (at_builtin; refine wpList_append_eq rfl (.tmp 45) (.tmp 47) 35 35 rfl rfl rfl (HR.out _) ?_)
          go_roundg k2
          case measure => omega
          case rel => exact ⟨i + 1, J, Gn, (k + 1), _, _, rfl, rfl, rfl, rfl, by go_num, by omega, HBD.out.1, HBD.out.2.1, HBD.out.2.2, by omega, by omega, Lib.hid ⟨HQ.out.1, by first | exact HQ.out.2 | (rw [HQQ.out]; exact HQ.out.2)⟩⟩
end Go.Proofs.Ytdlmiiekcpbdcaa
