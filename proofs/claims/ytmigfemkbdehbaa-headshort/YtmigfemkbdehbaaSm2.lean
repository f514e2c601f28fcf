/- Contracts of sums.Of and sums.Check, and of the reference's DOf, over bytes that lie in memory. -/
import Derived.Test.YtmigfemkbdehbaaSm1a
import Derived.Deep.LoopGhost
namespace Go.Proofs.Ytmigfemkbdehbaa
open Go.RowKit

/-- Bytes lie in memory from the address A on. -/
structure Lies (w : World) (A : Option Addr) (bs : List Int) : Prop where
  at_ : 0 < bs.length → ∃ b off, A = some ⟨b, off, none⟩ ∧ b < w.heap.size ∧ ∀ j x, bs[j]? = some x → w.cell? ⟨b, off + j, none⟩ = some (.int .u8 x)
  bytes : Bytes bs
  len : bs.length ≤ 281474976710656
theorem Lies.below {w w' : World} {A : Option Addr} {bs : List Int} (h : Lies w A bs) (hb : Below w.heap.size w w') : Lies w' A bs := by
  refine ⟨fun h0 => ?_, h.bytes, h.len⟩
  obtain ⟨b, off, e, hl, hc⟩ := h.at_ h0
  exact ⟨b, off, e, Nat.lt_of_lt_of_le hl hb.size, fun j x hx => (hb.cell (p := ⟨b, off + j, none⟩) hl).trans (hc j x hx)⟩
theorem Lies.next {w : World} {A : Option Addr} {bs : List Int} (h : Lies w A bs) {i : Nat} (hi : i < bs.length) :
    ∃ b off x, A = some ⟨b, off, none⟩ ∧ w.cell? ⟨b, off + i, none⟩ = some (.int .u8 x) ∧ bs[i]? = some x ∧ 0 ≤ x ∧ x < 256 := by
  obtain ⟨b, off, e, _, hc⟩ := h.at_ (by omega)
  have hx : bs[i]? = some bs[i] := List.getElem?_eq_getElem hi
  exact ⟨b, off, _, e, hc i _ hx, hx, (h.bytes.at hx).1, (h.bytes.at hx).2⟩

/-- Bytes that came as an argument. -/
structure CameB (w : World) (A : Option Addr) (cap : Nat) (bs : List Int) : Prop where
  lies : Lies w A bs
  size : bs.length + 4096 ≤ 140737488355328
  nil : A = none → bs = [] ∧ cap = 0

theorem CameB.below {w w' : World} {A : Option Addr} {cap : Nat} {bs : List Int} (h : CameB w A cap bs) (hb : Below w.heap.size w w') : CameB w' A cap bs := ⟨h.lies.below hb, h.size, h.nil⟩

theorem tot_room {w : World} {A : Option Addr} {bs : List Int} (h : Lies w A bs) {i : Nat} (hi : i ≤ bs.length) : 0 ≤ tot 0 (bs.take i) ∧ tot 0 (bs.take i) ≤ 65280 * (i : Int) := by
  obtain ⟨a, b⟩ := tot_bound (h.bytes.take i) 0
  rw [List.length_take, Nat.min_eq_left hi] at b
  exact ⟨a, b⟩

set_option maxHeartbeats 1000000 in
theorem of_any {w : World} {A : Option Addr} {bs : List Int} (h : Lies w A bs) (cap : Nat) :
    Calls Try.prog 27 #[.slice A bs.length cap] w fun e w' => e = .returned (.int .u16 (fd (tot 0 bs))) ∧ w = w' := by
  obtain ⟨n, hn⟩ : ∃ n, bs.length = n := ⟨_, rfl⟩
  have hl := h.len
  have HN := Lib.hid (fun i (hi : i < n) => h.next (hn ▸ hi))
  have HR := Lib.hid (fun i (hi : i ≤ n) => tot_room h (hn ▸ hi))
  have HE := Lib.hid (show bs.take n = bs by rw [← hn]; exact List.take_length)
  rw [hn] at hl ⊢
  have HF := Lib.hid (fun w => fold_any (tot 0 bs) (by have := HR.out n (Nat.le_refl _); rw [HE.out] at this; exact this.1) (by have := HR.out n (Nat.le_refl _); rw [HE.out] at this; omega) w)
  clear h hn
  go_enter Try.func27, Try.ntmps27
  go_wp2
  go_loopg [3, 8] n (fun k s c wr => ∃ i : Nat, c = .int .i64 (i : Int) ∧ i + k = n ∧ s = .int .u64 (tot 0 (bs.take i)) ∧ wr = w)
  case atStart => exact ⟨0, rfl, by omega, rfl, rfl⟩
  case round =>
    obtain ⟨i, rfl, hik, rfl, rfl⟩ := hrel
    cases gk with
    | zero =>
      obtain rfl : i = n := by omega
      rw [HE.out]
      go_wp2_with fail
      refine (HF.out _).mono ?_
      rintro e w1 ⟨rfl, rfl⟩
      go_wp2
      go_ret
      exact ⟨rfl, rfl⟩
    | succ k =>
      have hi : i < n := by omega
      obtain ⟨b, off, x, rfl, hc, hx, x0, x1⟩ := HN.out i hi
      have HT := Lib.hid (tot_next hx)
      obtain ⟨t0, t1⟩ := HR.out i (by omega)
      generalize tot 0 (bs.take i) = T at *
      have i1 : (i : Int) < (n : Int) := by omega
      rcases wt_two i with ⟨hw, hp⟩ | ⟨hw, hp⟩
      · rw [hw] at HT
        have hm : (i : Int) % 2 = 0 := by omega
        clear hw hx
        go_wp2
        go_roundg k
        case measure => omega
        case rel => exact ⟨i + 1, by go_num, by omega, by rw [HT.out]; go_num, rfl⟩
      · rw [hw] at HT
        have hm : (i : Int) % 2 = 1 := by omega
        clear hw hx
        go_wp2
        go_roundg k
        case measure => omega
        case rel => exact ⟨i + 1, by go_num, by omega, by rw [HT.out]; go_num, rfl⟩

theorem tot_all {w : World} {A : Option Addr} {bs : List Int} (h : Lies w A bs) : 0 ≤ tot 0 bs := (tot_bound h.bytes 0).1

set_option maxHeartbeats 1000000 in
theorem check_any {w : World} {A : Option Addr} {bs : List Int} (h : Lies w A bs) (cap : Nat) :
    Calls Try.prog 16 #[.slice A bs.length cap] w fun e w' => e = .returned (.int .u16 (65535 - fd (tot 0 bs))) ∧ w = w' := by
  have H1 := Lib.hid (of_any h cap)
  have e1 := bits_not16 (fd_half (tot_all h))
  have hs : IntKind.u16.signed = false := rfl
  generalize fd (tot 0 bs) = T at *
  clear h
  go_enter Try.func16, Try.ntmps16
  go_wp2_with fail
  refine H1.out.mono ?_
  rintro e w1 ⟨rfl, rfl⟩
  go_wp2
  go_ret
  exact ⟨rfl, rfl⟩

theorem fd_more {T x : Int} (hT : 0 ≤ T) (hx : 0 ≤ x) (hx1 : x < 65536) : (65535 < fd T + x → fd (T + x) = fd T + x - 65536 + 1) ∧ (¬ 65535 < fd T + x → fd (T + x) = fd T + x) := by
  obtain ⟨a, b⟩ := fd_half hT
  rw [← fd_fd hT hx, dadd ⟨a, b⟩ ⟨hx, hx1⟩]
  refine ⟨fun h => ?_, fun h => ?_⟩
  · rw [if_pos h]; omega
  · rw [if_neg h]

set_option maxHeartbeats 1000000 in
theorem dof_any {w : World} {A : Option Addr} {bs : List Int} (h : Lies w A bs) (cap : Nat) :
    Calls Try.prog 20 #[.slice A bs.length cap] w fun e w' => e = .returned (.int .i64 (fd (tot 0 bs))) ∧ w = w' := by
  obtain ⟨n, hn⟩ : ∃ n, bs.length = n := ⟨_, rfl⟩
  have hl := h.len
  have HN := Lib.hid (fun i (hi : i < n) => h.next (hn ▸ hi))
  have HR := Lib.hid (fun i (hi : i ≤ n) => tot_room h (hn ▸ hi))
  have HE := Lib.hid (show bs.take n = bs by rw [← hn]; exact List.take_length)
  rw [hn] at hl ⊢
  clear h hn
  go_enter Try.func20, Try.ntmps20
  go_wp2
  go_loopg [3, 9] n (fun k s c wr => ∃ i : Nat, c = .int .i64 (i : Int) ∧ i + k = n ∧ s = .int .i64 (fd (tot 0 (bs.take i))) ∧ wr = w)
  case atStart => exact ⟨0, rfl, by omega, rfl, rfl⟩
  case round =>
    obtain ⟨i, rfl, hik, rfl, rfl⟩ := hrel
    cases gk with
    | zero =>
      obtain rfl : i = n := by omega
      rw [HE.out]
      go_wp2
      go_ret
      exact ⟨rfl, rfl⟩
    | succ k =>
      have hi : i < n := by omega
      obtain ⟨b, off, x, rfl, hc, hx, x0, x1⟩ := HN.out i hi
      have HT := tot_next hx
      obtain ⟨t0, t1⟩ := HR.out i (by omega)
      have i1 : (i : Int) < (n : Int) := by omega
      obtain ⟨f0, f1⟩ := fd_half t0
      rcases wt_two i with ⟨hw, hp⟩ | ⟨hw, hp⟩
      · rw [hw, Int.mul_comm] at HT
        have hm : (i : Int) % 2 = 0 := by omega
        have HM := fd_more t0 (show 0 ≤ x * 256 by omega) (by omega)
        rw [← HT] at HM
        have HM' := Lib.hid HM
        clear hw hx HM HT t1 t0
        generalize fd (tot 0 (bs.take i)) = T at *
        by_cases c : 65535 < T + x * 256
        · go_wp2
          go_roundg k
          case measure => omega
          case rel => exact ⟨i + 1, by go_num, by omega, by rw [HM'.out.1 c], rfl⟩
        · go_wp2
          go_roundg k
          case measure => omega
          case rel => exact ⟨i + 1, by go_num, by omega, by rw [HM'.out.2 c], rfl⟩
      · rw [hw, Int.one_mul] at HT
        have hm : (i : Int) % 2 = 1 := by omega
        have HM := fd_more t0 (show 0 ≤ x by omega) (by omega)
        rw [← HT] at HM
        have HM' := Lib.hid HM
        clear hw hx HM HT t1 t0
        generalize fd (tot 0 (bs.take i)) = T at *
        by_cases c : 65535 < T + x
        · go_wp2
          go_roundg k
          case measure => omega
          case rel => exact ⟨i + 1, by go_num, by omega, by rw [HM'.out.1 c], rfl⟩
        · go_wp2
          go_roundg k
          case measure => omega
          case rel => exact ⟨i + 1, by go_num, by omega, by rw [HM'.out.2 c], rfl⟩
end Go.Proofs.Ytmigfemkbdehbaa
