/- SumsGroup of package weirhousekeep: its walk. -/
import Derived.Test.YtalliljmkijeiaaSm5
namespace Go.Proofs.Ytalliljmkijeiaa
open Go.RowKit Go.Maps

theorem tot_cat {xs ys : List Int} (he : xs.length % 2 = 0) : tot 0 (xs ++ ys) = tot 0 xs + tot 0 ys := by
  rw [tot_append, tot_parity ys (0 + xs.length) 0 (by omega)]
theorem cat_len {w : World} {A1 A2 : Option Addr} {c1 c2 : Nat} {xs ys : List Int} (h1 : CameB w A1 c1 xs) (h2 : CameB w A2 c2 ys) : (xs ++ ys).length ≤ 281474976710656 := by
  have := h1.size
  have := h2.size
  rw [List.length_append]
  omega

/-- Concat and Of of what it made. -/
theorem pair_cells (w : World) (v1 v2 : Value) : (w.alloc (.cells #[v1, v2] 22)).cell? ⟨w.heap.size, 0, none⟩ = some v1 ∧ (w.alloc (.cells #[v1, v2] 22)).cell? ⟨w.heap.size, 1, none⟩ = some v2 := by
  refine ⟨?_, ?_⟩ <;> rw [cell_of_row _ w.heap.size _ _ _ _ (heap_alloc_new w _)] <;> rfl
theorem concat_pair {w : World} {A1 A2 : Option Addr} {cap1 cap2 : Nat} {xs ys : List Int} (h1 : CameB w A1 cap1 xs) (h2 : CameB w A2 cap2 ys) :
    Calls Try.prog 16 #[.slice (some ⟨w.heap.size, 0, none⟩) 2 2] (w.alloc (.cells #[.slice A1 xs.length cap1, .slice A2 ys.length cap2] 22)) fun e w' =>
      ∃ A cap, e = .returned (.slice A (xs.length + ys.length) cap) ∧ Lies w' A (xs ++ ys) ∧ Below w.heap.size w w' := by
  have hb : Below w.heap.size w (w.alloc (.cells #[.slice A1 xs.length cap1, .slice A2 ys.length cap2] 22)) := (Below.refl _ _).alloc (Nat.le_refl _) _
  refine (concat_bytes (h1.below hb) (h2.below hb) (pair_cells w _ _).1 (pair_cells w _ _).2).mono ?_
  rintro e w' ⟨v, rfl, k1, k2⟩
  obtain ⟨A, cap, rfl, hL⟩ := k1.form (h1.lies.bytes.append h2.lies.bytes) (cat_len h1 h2)
  rw [List.length_append]
  exact ⟨A, cap, rfl, hL, hb.trans (k2.mono hb.size)⟩

set_option maxRecDepth 100000 in
set_option maxHeartbeats 4000000 in
theorem group_law {w : World} {A1 A2 : Option Addr} {cap1 cap2 m n : Nat} {xs ys : List Int} (h1 : CameB w A1 cap1 xs) (h2 : CameB w A2 cap2 ys) (hm : xs.length = m) (hn : ys.length = n) {a b c : Int} (ha : Half a) (hb : Half b) (hc : Half c) :
    Calls Try.prog 4 #[.int .u16 a, .int .u16 b, .int .u16 c, .slice A1 m cap1, .slice A2 n cap2] w fun e w' => e = .returned (.bool true) ∧ Below w.heap.size w w' := by
  have H0 := Lib.hid (alive4_any w)
  have hs1 := h1.size
  have hs2 := h2.size
  rw [hm] at hs1
  rw [hn] at hs2
  have ea : Half (fd (a + b)) := half_fd (by obtain ⟨_, _⟩ := ha; obtain ⟨_, _⟩ := hb; omega)
  have eb : Half (fd (b + c)) := half_fd (by obtain ⟨_, _⟩ := hb; obtain ⟨_, _⟩ := hc; omega)
  have HAB := fun w => add_any ha hb w
  have HBA := fun w => add_any hb ha w
  rw [Int.add_comm b a] at HBA
  have HABC := fun w => add_any ea hc w
  have HBC := fun w => add_any hb hc w
  have HABC2 := fun w => add_any ha eb w
  have e3 : fd (a + fd (b + c)) = fd (fd (a + b) + c) := by
    obtain ⟨a0, _⟩ := ha
    obtain ⟨b0, _⟩ := hb
    obtain ⟨c0, _⟩ := hc
    rw [fd_fd (by omega) c0, fd_fd' a0 (by omega), Int.add_assoc]
  rw [e3] at HABC2
  have HN := fun w => add_any ha (half_not ha) w
  rw [add_self ha] at HN
  have HS : ∀ w, Calls Try.prog 14 #[.int .u16 65535, .int .u16 0] w fun e w' => e = .returned (.bool true) ∧ w = w' := fun w => same_any 65535 0 w
  have en := bits_not16 ha
  have hsg : IntKind.u16.signed = false := rfl
  generalize fd (fd (a + b) + c) = r3 at *
  generalize fd (a + b) = r1 at *
  generalize fd (b + c) = r2 at *
  have HAB' := Lib.hid HAB
  have HBA' := Lib.hid HBA
  have HABC' := Lib.hid HABC
  have HBC' := Lib.hid HBC
  have HABC2' := Lib.hid HABC2
  have HN' := Lib.hid HN
  have HS' := Lib.hid HS
  clear HAB HBA HABC HBC HABC2 HN HS e3 ea eb hb hc ha
  go_enter Try.func4, Try.ntmps4
  go_wp2_with fail
  refine H0.out.mono ?_
  rintro e w1 ⟨rfl, hb1⟩
  have hC1 := h1.below hb1
  have hC2 := h2.below hb1
  have HB1 := Lib.hid hb1
  clear hb1 H0 h1 h2
  have HC1 := Lib.hid hC1
  have HC2 := Lib.hid hC2
  clear hC1 hC2
  go_wp2_with fail
  refine (HAB'.out _).mono ?_
  rintro e w2 ⟨rfl, rfl⟩
  go_wp2_with fail
  refine (HBA'.out _).mono ?_
  rintro e w2 ⟨rfl, rfl⟩
  go_wp2_with fail
  refine (HAB'.out _).mono ?_
  rintro e w2 ⟨rfl, rfl⟩
  go_wp2_with fail
  refine (HABC'.out _).mono ?_
  rintro e w2 ⟨rfl, rfl⟩
  go_wp2_with fail
  refine (HBC'.out _).mono ?_
  rintro e w2 ⟨rfl, rfl⟩
  go_wp2_with fail
  refine (HABC2'.out _).mono ?_
  rintro e w2 ⟨rfl, rfl⟩
  go_wp2_with fail
  refine (HN'.out _).mono ?_
  rintro e w2 ⟨rfl, rfl⟩
  go_wp2_with fail
  refine (HS'.out _).mono ?_
  rintro e w2 ⟨rfl, rfl⟩
  by_cases om : m % 2 = 0
  · have om' : (m : Int) % 2 = 0 := by omega
    by_cases on : n % 2 = 0
    · have on' : (n : Int) % 2 = 0 := by omega
      have H1 := concat_pair HC1.out HC2.out
      rw [hm, hn] at H1
      have H1' := Lib.hid H1
      clear H1
      go_wp2_with fail
      refine H1'.out.mono ?_
      rintro e w2 ⟨A, cap, rfl, hL, hb2⟩
      have H2 := of_any hL cap
      rw [List.length_append, hm, hn, tot_cat (by omega)] at H2
      have H2' := Lib.hid H2
      have hD1 := HC1.out.below hb2
      have hD2 := HC2.out.below hb2
      have h01 := tot_all hD1.lies
      have h02 := tot_all hD2.lies
      have H3 := of_any hD1.lies cap1
      have H4 := of_any hD2.lies cap2
      have H5 := add_any (fd_half h01) (fd_half h02) w2
      rw [fd_fd h01 (fd_half h02).1, fd_fd' h01 h02] at H5
      have H6 := concat_pair hD2 hD1
      rw [hm] at H3 H6
      rw [hn] at H4 H6
      have e7 : fd (tot 0 (ys ++ xs)) = fd (tot 0 xs + tot 0 ys) := by rw [tot_cat (by omega), Int.add_comm]
      have hl7 : (ys ++ xs).length = n + m := by rw [List.length_append, hm, hn]
      have H7 := fun w A (h : Lies w A (ys ++ xs)) cap => of_any h cap
      rw [e7, hl7] at H7
      generalize fd (tot 0 xs + tot 0 ys) = S at *
      generalize fd (tot 0 xs) = S1 at *
      generalize fd (tot 0 ys) = S2 at *
      have H3' := Lib.hid H3
      have H4' := Lib.hid H4
      have H5' := Lib.hid H5
      have H6' := Lib.hid H6
      have H7' := Lib.hid H7
      have HB2 := Lib.hid (HB1.out.trans (hb2.mono HB1.out.size))
      clear H2 H3 H4 H5 H6 H7 hL hb2 hD1 hD2 h01 h02 e7 HC1 HC2 H1' HB1
      go_wp2_with fail
      refine H2'.out.mono ?_
      rintro e w3 ⟨rfl, rfl⟩
      go_wp2_with fail
      refine H3'.out.mono ?_
      rintro e w3 ⟨rfl, rfl⟩
      go_wp2_with fail
      refine H4'.out.mono ?_
      rintro e w3 ⟨rfl, rfl⟩
      go_wp2_with fail
      refine H5'.out.mono ?_
      rintro e w3 ⟨rfl, rfl⟩
      go_wp2_with fail
      refine H6'.out.mono ?_
      rintro e w3 ⟨A4, cap4, rfl, hL4, hb4⟩
      have H8 := Lib.hid (H7'.out _ _ hL4 cap4)
      have HB4 := Lib.hid (HB2.out.trans (hb4.mono HB2.out.size))
      clear hL4 hb4
      go_wp2_with fail
      refine H8.out.mono ?_
      rintro e w5 ⟨rfl, rfl⟩
      go_wp2
      go_ret
      exact ⟨rfl, HB4.out⟩
    · have on' : (n : Int) % 2 = 1 := by omega
      go_wp2_with fail
      go_ret
      exact ⟨rfl, HB1.out⟩
  · have om' : (m : Int) % 2 = 1 := by omega
    go_wp2_with fail
    go_ret
    exact ⟨rfl, HB1.out⟩
end Go.Proofs.Ytalliljmkijeiaa
