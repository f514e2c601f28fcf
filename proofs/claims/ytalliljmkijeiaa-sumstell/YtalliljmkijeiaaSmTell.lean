/- SumsTell of package weirhouselaw: its walk. -/
import Derived.Test.YtalliljmkijeiaaSm2
namespace Go.Proofs.Ytalliljmkijeiaa
open Go.RowKit

set_option maxHeartbeats 1000000 in
theorem zero_any (a : Int) (w : World) :
    Calls Try.prog 9 #[.int .u16 a] w fun e w' => e = .returned (.bool (nought a)) ∧ w = w' := by
  unfold nought
  by_cases c : a = 0
  · subst c
    go_enter Try.func9, Try.ntmps9
    go_wp2
    go_ret
    exact ⟨ret_bool (by decide), rfl⟩
  · have c' : (a == 0) = false := by simpa using c
    go_enter Try.func9, Try.ntmps9
    go_wp2
    go_ret
    exact ⟨ret_bool (by simp [c]; rfl), rfl⟩

set_option maxRecDepth 100000 in
set_option maxHeartbeats 2000000 in
theorem tell_all {w : World} {A : Option Addr} {bs : List Int} (h : Lies w A bs) (cap : Nat) {x y z : Int} (hx : Half x) (hy : Half y) (hz : Half z) :
    Calls Try.prog 3 #[.slice A bs.length cap, .int .u16 x, .int .u16 y, .int .u16 z] w fun e w' => e = .returned (.bool true) ∧ Below w.heap.size w w' := by
  have H1 := Lib.hid (dof_any h cap)
  have H2 := Lib.hid (of_any h cap)
  have H3 := Lib.hid (check_any h cap)
  have HD1 := Lib.hid (fun w => dadd_any (half_not hx) (half_not hy) w)
  have hp : Half (fd ((65535 - x) + (65535 - y))) := half_fd (by obtain ⟨_, _⟩ := hx; obtain ⟨_, _⟩ := hy; omega)
  have HD2 := Lib.hid (fun w => dadd_any hp hz w)
  have hq : Half (fd (fd ((65535 - x) + (65535 - y)) + z)) := half_fd (by obtain ⟨_, _⟩ := hp; obtain ⟨_, _⟩ := hz; omega)
  have HA := Lib.hid (fun w => add_any hx hy w)
  have HD3 := Lib.hid (fun w => dadd_any hx hy w)
  have HT := Lib.hid (fun w => turn_any hx hy hz w)
  have HS := Lib.hid (fun w => same_any x y w)
  have HZ1 := Lib.hid (fun w => zero_any x w)
  have HZ2 := Lib.hid (fun w => zero_any y w)
  have hr : Half (fd (x + y)) := half_fd (by obtain ⟨_, _⟩ := hx; obtain ⟨_, _⟩ := hy; omega)
  have hN := fd_half (tot_all h)
  generalize fd (tot 0 bs) = N at *
  generalize fd (fd ((65535 - x) + (65535 - y)) + z) = q at *
  generalize fd ((65535 - x) + (65535 - y)) = p at *
  generalize fd (x + y) = r at *
  obtain ⟨x0, x1⟩ := hx
  obtain ⟨y0, y1⟩ := hy
  obtain ⟨z0, z1⟩ := hz
  obtain ⟨p0, p1⟩ := hp
  obtain ⟨q0, q1⟩ := hq
  obtain ⟨r0, r1⟩ := hr
  obtain ⟨N0, N1⟩ := hN
  clear h
  go_enter Try.func3, Try.ntmps3
  go_wp2_with fail
  refine H1.out.mono ?_
  rintro e w1 ⟨rfl, rfl⟩
  go_wp2_with fail
  refine (HD1.out _).mono ?_
  rintro e w1 ⟨rfl, rfl⟩
  go_wp2_with fail
  refine (HD2.out _).mono ?_
  rintro e w1 ⟨rfl, rfl⟩
  go_wp2_with fail
  refine H2.out.mono ?_
  rintro e w1 ⟨rfl, rfl⟩
  go_wp2_with fail
  refine (HA.out _).mono ?_
  rintro e w1 ⟨rfl, rfl⟩
  go_wp2_with fail
  refine (HD3.out _).mono ?_
  rintro e w1 ⟨rfl, rfl⟩
  go_wp2_with fail
  refine H3.out.mono ?_
  rintro e w1 ⟨rfl, rfl⟩
  go_wp2_with fail
  refine (HT.out _).mono ?_
  rintro e w1 ⟨rfl, rfl⟩
  go_wp2_with fail
  refine (HS.out _).mono ?_
  rintro e w1 ⟨rfl, rfl⟩
  by_cases c : x = y
  · subst c
    have hal : decide (Alike x x) = true := by simp [Alike]
    go_wp2_with fail
    go_ret
    exact ⟨rfl, Below.refl _ _⟩
  · have c' : (x == y) = false := by simpa using c
    have HAl := Lib.hid (alike_eq c)
    generalize decide (Alike x y) = v at *
    generalize nought x = s at *
    generalize nought y = t at *
    clear c
    go_wp2_with fail
    refine (HZ1.out _).mono ?_
    rintro e w1 ⟨rfl, rfl⟩
    cases s with
    | false =>
      obtain rfl : false = v := HAl.out
      go_wp2_with fail
      go_ret
      exact ⟨rfl, Below.refl _ _⟩
    | true =>
      obtain rfl : t = v := HAl.out
      go_wp2_with fail
      refine (HZ2.out _).mono ?_
      rintro e w1 ⟨rfl, rfl⟩
      cases t with
      | false =>
        go_wp2
        go_ret
        exact ⟨rfl, Below.refl _ _⟩
      | true =>
        go_wp2
        go_ret
        exact ⟨rfl, Below.refl _ _⟩
end Go.Proofs.Ytalliljmkijeiaa
