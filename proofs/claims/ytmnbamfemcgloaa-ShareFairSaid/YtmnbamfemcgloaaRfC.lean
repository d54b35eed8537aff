/- The reference's Times, way by way. -/
import Derived.Test.YtmnbamfemcgloaaRfB
set_option linter.unusedVariables false
namespace Go.Proofs.Ytmnbamfemcgloaa.Rf
open Go.ChangeShapes Go.WideShapes Go.ChangeAt Go.RowKit

/-! Times: first what may not be asked. -/
theorem t_x (x y d way : Int) (w : World) (h : x < 0 ∨ 100000000000000 < x) : Calls Try.prog 32 #[.int .i64 x, .int .i64 y, .int .i64 d, .int .i64 way] w fun e w' => e = .returned (.tuple #[.int .i64 0, .int .i64 2]) ∧ Below w.heap.size w w' := by
  go_enter Try.func32, Try.ntmps32
  go_wp2_with fail
  refine (right_no _ _ h).mono ?_
  rintro e w' ⟨rfl, rfl⟩
  go_wp2_with fail
  go_ret2
  exact ⟨rfl, Below.refl _ _⟩

theorem t_y (x y d way : Int) (w : World) (h0 : 0 ≤ x) (h1 : x ≤ 100000000000000) (h : y < 0 ∨ 100000000000000 < y) : Calls Try.prog 32 #[.int .i64 x, .int .i64 y, .int .i64 d, .int .i64 way] w fun e w' => e = .returned (.tuple #[.int .i64 0, .int .i64 2]) ∧ Below w.heap.size w w' := by
  go_enter Try.func32, Try.ntmps32
  go_wp2_with fail
  refine (right_yes _ _ h0 h1).mono ?_
  rintro e w' ⟨rfl, rfl⟩
  go_wp2_with fail
  refine (right_no _ _ h).mono ?_
  rintro e w' ⟨rfl, rfl⟩
  go_wp2_with fail
  go_ret2
  exact ⟨rfl, Below.refl _ _⟩

theorem t_d (x y d way : Int) (w : World) (h0 : 0 ≤ x) (h1 : x ≤ 100000000000000) (g0 : 0 ≤ y) (g1 : y ≤ 100000000000000) (h : d < 1) : Calls Try.prog 32 #[.int .i64 x, .int .i64 y, .int .i64 d, .int .i64 way] w fun e w' => e = .returned (.tuple #[.int .i64 0, .int .i64 2]) ∧ Below w.heap.size w w' := by
  have k1 : decide (d < 1) = true := by simp; omega
  go_enter Try.func32, Try.ntmps32
  go_wp2_with fail
  refine (right_yes _ _ h0 h1).mono ?_
  rintro e w' ⟨rfl, rfl⟩
  go_wp2_with fail
  refine (right_yes _ _ g0 g1).mono ?_
  rintro e w' ⟨rfl, rfl⟩
  go_wp2_with fail
  go_ret2
  exact ⟨rfl, Below.refl _ _⟩

theorem t_e (x y d way : Int) (w : World) (h0 : 0 ≤ x) (h1 : x ≤ 100000000000000) (g0 : 0 ≤ y) (g1 : y ≤ 100000000000000) (d0 : 1 ≤ d) (h : 100000000000000 < d) : Calls Try.prog 32 #[.int .i64 x, .int .i64 y, .int .i64 d, .int .i64 way] w fun e w' => e = .returned (.tuple #[.int .i64 0, .int .i64 2]) ∧ Below w.heap.size w w' := by
  have k1 : decide (d < 1) = false := by simp; omega
  have k2 : decide (100000000000000 < d) = true := by simp; omega
  go_enter Try.func32, Try.ntmps32
  go_wp2_with fail
  refine (right_yes _ _ h0 h1).mono ?_
  rintro e w' ⟨rfl, rfl⟩
  go_wp2_with fail
  refine (right_yes _ _ g0 g1).mono ?_
  rintro e w' ⟨rfl, rfl⟩
  go_wp2_with fail
  go_ret2
  exact ⟨rfl, Below.refl _ _⟩

theorem t_w (x y d way : Int) (w : World) (h0 : 0 ≤ x) (h1 : x ≤ 100000000000000) (g0 : 0 ≤ y) (g1 : y ≤ 100000000000000) (d0 : 1 ≤ d) (d1 : d ≤ 100000000000000) (h : way < 0) : Calls Try.prog 32 #[.int .i64 x, .int .i64 y, .int .i64 d, .int .i64 way] w fun e w' => e = .returned (.tuple #[.int .i64 0, .int .i64 2]) ∧ Below w.heap.size w w' := by
  have k1 : decide (d < 1) = false := by simp; omega
  have k2 : decide (100000000000000 < d) = false := by simp; omega
  have k3 : decide (way < 0) = true := by simp; omega
  go_enter Try.func32, Try.ntmps32
  go_wp2_with fail
  refine (right_yes _ _ h0 h1).mono ?_
  rintro e w' ⟨rfl, rfl⟩
  go_wp2_with fail
  refine (right_yes _ _ g0 g1).mono ?_
  rintro e w' ⟨rfl, rfl⟩
  go_wp2_with fail
  go_ret2
  exact ⟨rfl, Below.refl _ _⟩

theorem t_v (x y d way : Int) (w : World) (h0 : 0 ≤ x) (h1 : x ≤ 100000000000000) (g0 : 0 ≤ y) (g1 : y ≤ 100000000000000) (d0 : 1 ≤ d) (d1 : d ≤ 100000000000000) (h : 2 < way) : Calls Try.prog 32 #[.int .i64 x, .int .i64 y, .int .i64 d, .int .i64 way] w fun e w' => e = .returned (.tuple #[.int .i64 0, .int .i64 2]) ∧ Below w.heap.size w w' := by
  have k1 : decide (d < 1) = false := by simp; omega
  have k2 : decide (100000000000000 < d) = false := by simp; omega
  have k3 : decide (way < 0) = false := by simp; omega
  have k4 : decide (2 < way) = true := by simp; omega
  go_enter Try.func32, Try.ntmps32
  go_wp2_with fail
  refine (right_yes _ _ h0 h1).mono ?_
  rintro e w' ⟨rfl, rfl⟩
  go_wp2_with fail
  refine (right_yes _ _ g0 g1).mono ?_
  rintro e w' ⟨rfl, rfl⟩
  go_wp2_with fail
  go_ret2
  exact ⟨rfl, Below.refl _ _⟩

theorem t_bad (way x y d : Int) (w : World) (h : ¬ (Ok x ∧ Ok y ∧ 1 ≤ d ∧ d ≤ 100000000000000 ∧ 0 ≤ way ∧ way ≤ 2)) : Calls Try.prog 32 #[.int .i64 x, .int .i64 y, .int .i64 d, .int .i64 way] w fun e w' => e = .returned (.tuple #[.int .i64 0, .int .i64 2]) ∧ Below w.heap.size w w' := by
  by_cases hx : x < 0 ∨ 100000000000000 < x
  · exact t_x x y d way w hx
  by_cases hy : y < 0 ∨ 100000000000000 < y
  · exact t_y x y d way w (by omega) (by omega) hy
  by_cases hd : d < 1
  · exact t_d x y d way w (by omega) (by omega) (by omega) (by omega) hd
  by_cases he : 100000000000000 < d
  · exact t_e x y d way w (by omega) (by omega) (by omega) (by omega) (by omega) he
  by_cases hw : way < 0
  · exact t_w x y d way w (by omega) (by omega) (by omega) (by omega) (by omega) (by omega) hw
  · exact t_v x y d way w (by omega) (by omega) (by omega) (by omega) (by omega) (by omega) (by omega)

theorem t_no (x y d way : Int) (w : World) (h0 : 0 ≤ x) (h1 : x ≤ 100000000000000) (g0 : 0 ≤ y) (g1 : y ≤ 100000000000000) (d0 : 1 ≤ d) (d1 : d ≤ 100000000000000) (w0 : 0 ≤ way) (w1 : way ≤ 2)
    (HP : Hid (∀ w, Calls Try.prog 29 #[.int .i64 x, .int .i64 y, .int .i64 d] w fun e w' => e = .returned (.tuple #[.int .i64 0, .int .i64 0, .bool false]) ∧ Below w.heap.size w w')) :
    Calls Try.prog 32 #[.int .i64 x, .int .i64 y, .int .i64 d, .int .i64 way] w fun e w' => e = .returned (.tuple #[.int .i64 0, .int .i64 5]) ∧ Below w.heap.size w w' := by
  have k1 : decide (d < 1) = false := by simp; omega
  have k2 : decide (100000000000000 < d) = false := by simp; omega
  have k3 : decide (way < 0) = false := by simp; omega
  have k4 : decide (2 < way) = false := by simp; omega
  go_enter Try.func32, Try.ntmps32
  go_wp2_with fail
  refine (right_yes _ _ h0 h1).mono ?_
  rintro e w' ⟨rfl, rfl⟩
  go_wp2_with fail
  refine (right_yes _ _ g0 g1).mono ?_
  rintro e w' ⟨rfl, rfl⟩
  go_wp2_with fail
  refine (HP.out _).mono ?_
  rintro e w' ⟨rfl, hb⟩
  go_wp2_with fail
  go_ret2
  exact ⟨rfl, hb⟩

theorem t_0ay (x y d q r : Int) (w : World) (h0 : 0 ≤ x) (h1 : x ≤ 100000000000000) (g0 : 0 ≤ y) (g1 : y ≤ 100000000000000) (d0 : 1 ≤ d) (d1 : d ≤ 100000000000000) (q0 : 0 ≤ q) (q1 : q ≤ 100000000000000) (r0 : 0 ≤ r) (r1 : r < d) (hv : q ≤ 100000000000000)
    (HP : Hid (∀ w, Calls Try.prog 29 #[.int .i64 x, .int .i64 y, .int .i64 d] w fun e w' => e = .returned (.tuple #[.int .i64 q, .int .i64 r, .bool true]) ∧ Below w.heap.size w w')) :
    Calls Try.prog 32 #[.int .i64 x, .int .i64 y, .int .i64 d, .int .i64 0] w fun e w' => e = .returned (.tuple #[.int .i64 (q), .int .i64 0]) ∧ Below w.heap.size w w' := by
  have k1 : decide (d < 1) = false := by simp; omega
  have k2 : decide (100000000000000 < d) = false := by simp; omega
  go_enter Try.func32, Try.ntmps32
  go_wp2_with fail
  refine (right_yes _ _ h0 h1).mono ?_
  rintro e w' ⟨rfl, rfl⟩
  go_wp2_with fail
  refine (right_yes _ _ g0 g1).mono ?_
  rintro e w' ⟨rfl, rfl⟩
  go_wp2_with fail
  refine (HP.out _).mono ?_
  rintro e w' ⟨rfl, hb⟩
  go_wp2_with fail
  refine (right_yes _ _ (by omega) hv).mono ?_
  rintro e w' ⟨rfl, rfl⟩
  go_wp2_with fail
  go_ret2
  exact ⟨rfl, hb⟩

theorem t_1ay (x y d q r : Int) (w : World) (h0 : 0 ≤ x) (h1 : x ≤ 100000000000000) (g0 : 0 ≤ y) (g1 : y ≤ 100000000000000) (d0 : 1 ≤ d) (d1 : d ≤ 100000000000000) (q0 : 0 ≤ q) (q1 : q ≤ 100000000000000) (r0 : 0 ≤ r) (r1 : r < d) (c : 2 * r < d) (hv : q ≤ 100000000000000)
    (HP : Hid (∀ w, Calls Try.prog 29 #[.int .i64 x, .int .i64 y, .int .i64 d] w fun e w' => e = .returned (.tuple #[.int .i64 q, .int .i64 r, .bool true]) ∧ Below w.heap.size w w')) :
    Calls Try.prog 32 #[.int .i64 x, .int .i64 y, .int .i64 d, .int .i64 1] w fun e w' => e = .returned (.tuple #[.int .i64 (q), .int .i64 0]) ∧ Below w.heap.size w w' := by
  have k1 : decide (d < 1) = false := by simp; omega
  have k2 : decide (100000000000000 < d) = false := by simp; omega
  go_enter Try.func32, Try.ntmps32
  go_wp2_with fail
  refine (right_yes _ _ h0 h1).mono ?_
  rintro e w' ⟨rfl, rfl⟩
  go_wp2_with fail
  refine (right_yes _ _ g0 g1).mono ?_
  rintro e w' ⟨rfl, rfl⟩
  go_wp2_with fail
  refine (HP.out _).mono ?_
  rintro e w' ⟨rfl, hb⟩
  go_wp2_with fail
  refine (right_yes _ _ (by omega) hv).mono ?_
  rintro e w' ⟨rfl, rfl⟩
  go_wp2_with fail
  go_ret2
  exact ⟨rfl, hb⟩

theorem t_1by (x y d q r : Int) (w : World) (h0 : 0 ≤ x) (h1 : x ≤ 100000000000000) (g0 : 0 ≤ y) (g1 : y ≤ 100000000000000) (d0 : 1 ≤ d) (d1 : d ≤ 100000000000000) (q0 : 0 ≤ q) (q1 : q ≤ 100000000000000) (r0 : 0 ≤ r) (r1 : r < d) (c : d ≤ 2 * r) (hv : q + 1 ≤ 100000000000000)
    (HP : Hid (∀ w, Calls Try.prog 29 #[.int .i64 x, .int .i64 y, .int .i64 d] w fun e w' => e = .returned (.tuple #[.int .i64 q, .int .i64 r, .bool true]) ∧ Below w.heap.size w w')) :
    Calls Try.prog 32 #[.int .i64 x, .int .i64 y, .int .i64 d, .int .i64 1] w fun e w' => e = .returned (.tuple #[.int .i64 (q + 1), .int .i64 0]) ∧ Below w.heap.size w w' := by
  have k1 : decide (d < 1) = false := by simp; omega
  have k2 : decide (100000000000000 < d) = false := by simp; omega
  go_enter Try.func32, Try.ntmps32
  go_wp2_with fail
  refine (right_yes _ _ h0 h1).mono ?_
  rintro e w' ⟨rfl, rfl⟩
  go_wp2_with fail
  refine (right_yes _ _ g0 g1).mono ?_
  rintro e w' ⟨rfl, rfl⟩
  go_wp2_with fail
  refine (HP.out _).mono ?_
  rintro e w' ⟨rfl, hb⟩
  go_wp2_with fail
  refine (right_yes _ _ (by omega) hv).mono ?_
  rintro e w' ⟨rfl, rfl⟩
  go_wp2_with fail
  go_ret2
  exact ⟨rfl, hb⟩

theorem t_1bo (x y d q r : Int) (w : World) (h0 : 0 ≤ x) (h1 : x ≤ 100000000000000) (g0 : 0 ≤ y) (g1 : y ≤ 100000000000000) (d0 : 1 ≤ d) (d1 : d ≤ 100000000000000) (q0 : 0 ≤ q) (q1 : q ≤ 100000000000000) (r0 : 0 ≤ r) (r1 : r < d) (c : d ≤ 2 * r) (hv : 100000000000000 < q + 1)
    (HP : Hid (∀ w, Calls Try.prog 29 #[.int .i64 x, .int .i64 y, .int .i64 d] w fun e w' => e = .returned (.tuple #[.int .i64 q, .int .i64 r, .bool true]) ∧ Below w.heap.size w w')) :
    Calls Try.prog 32 #[.int .i64 x, .int .i64 y, .int .i64 d, .int .i64 1] w fun e w' => e = .returned (.tuple #[.int .i64 0, .int .i64 5]) ∧ Below w.heap.size w w' := by
  have k1 : decide (d < 1) = false := by simp; omega
  have k2 : decide (100000000000000 < d) = false := by simp; omega
  go_enter Try.func32, Try.ntmps32
  go_wp2_with fail
  refine (right_yes _ _ h0 h1).mono ?_
  rintro e w' ⟨rfl, rfl⟩
  go_wp2_with fail
  refine (right_yes _ _ g0 g1).mono ?_
  rintro e w' ⟨rfl, rfl⟩
  go_wp2_with fail
  refine (HP.out _).mono ?_
  rintro e w' ⟨rfl, hb⟩
  go_wp2_with fail
  refine (right_no _ _ (Or.inr hv)).mono ?_
  rintro e w' ⟨rfl, rfl⟩
  go_wp2_with fail
  go_ret2
  exact ⟨rfl, hb⟩

theorem t_2ay (x y d q r : Int) (w : World) (h0 : 0 ≤ x) (h1 : x ≤ 100000000000000) (g0 : 0 ≤ y) (g1 : y ≤ 100000000000000) (d0 : 1 ≤ d) (d1 : d ≤ 100000000000000) (q0 : 0 ≤ q) (q1 : q ≤ 100000000000000) (r0 : 0 ≤ r) (r1 : r < d) (c : 2 * r < d) (hv : q ≤ 100000000000000)
    (HP : Hid (∀ w, Calls Try.prog 29 #[.int .i64 x, .int .i64 y, .int .i64 d] w fun e w' => e = .returned (.tuple #[.int .i64 q, .int .i64 r, .bool true]) ∧ Below w.heap.size w w')) :
    Calls Try.prog 32 #[.int .i64 x, .int .i64 y, .int .i64 d, .int .i64 2] w fun e w' => e = .returned (.tuple #[.int .i64 (q), .int .i64 0]) ∧ Below w.heap.size w w' := by
  have k1 : decide (d < 1) = false := by simp; omega
  have k2 : decide (100000000000000 < d) = false := by simp; omega
  have e1 : (2 * r == d) = false := by simp; omega
  go_enter Try.func32, Try.ntmps32
  go_wp2_with fail
  refine (right_yes _ _ h0 h1).mono ?_
  rintro e w' ⟨rfl, rfl⟩
  go_wp2_with fail
  refine (right_yes _ _ g0 g1).mono ?_
  rintro e w' ⟨rfl, rfl⟩
  go_wp2_with fail
  refine (HP.out _).mono ?_
  rintro e w' ⟨rfl, hb⟩
  go_wp2_with fail
  refine (right_yes _ _ (by omega) hv).mono ?_
  rintro e w' ⟨rfl, rfl⟩
  go_wp2_with fail
  go_ret2
  exact ⟨rfl, hb⟩

theorem t_2by (x y d q r : Int) (w : World) (h0 : 0 ≤ x) (h1 : x ≤ 100000000000000) (g0 : 0 ≤ y) (g1 : y ≤ 100000000000000) (d0 : 1 ≤ d) (d1 : d ≤ 100000000000000) (q0 : 0 ≤ q) (q1 : q ≤ 100000000000000) (r0 : 0 ≤ r) (r1 : r < d) (c : d < 2 * r) (hv : q + 1 ≤ 100000000000000)
    (HP : Hid (∀ w, Calls Try.prog 29 #[.int .i64 x, .int .i64 y, .int .i64 d] w fun e w' => e = .returned (.tuple #[.int .i64 q, .int .i64 r, .bool true]) ∧ Below w.heap.size w w')) :
    Calls Try.prog 32 #[.int .i64 x, .int .i64 y, .int .i64 d, .int .i64 2] w fun e w' => e = .returned (.tuple #[.int .i64 (q + 1), .int .i64 0]) ∧ Below w.heap.size w w' := by
  have k1 : decide (d < 1) = false := by simp; omega
  have k2 : decide (100000000000000 < d) = false := by simp; omega
  go_enter Try.func32, Try.ntmps32
  go_wp2_with fail
  refine (right_yes _ _ h0 h1).mono ?_
  rintro e w' ⟨rfl, rfl⟩
  go_wp2_with fail
  refine (right_yes _ _ g0 g1).mono ?_
  rintro e w' ⟨rfl, rfl⟩
  go_wp2_with fail
  refine (HP.out _).mono ?_
  rintro e w' ⟨rfl, hb⟩
  go_wp2_with fail
  refine (right_yes _ _ (by omega) hv).mono ?_
  rintro e w' ⟨rfl, rfl⟩
  go_wp2_with fail
  go_ret2
  exact ⟨rfl, hb⟩

theorem t_2bo (x y d q r : Int) (w : World) (h0 : 0 ≤ x) (h1 : x ≤ 100000000000000) (g0 : 0 ≤ y) (g1 : y ≤ 100000000000000) (d0 : 1 ≤ d) (d1 : d ≤ 100000000000000) (q0 : 0 ≤ q) (q1 : q ≤ 100000000000000) (r0 : 0 ≤ r) (r1 : r < d) (c : d < 2 * r) (hv : 100000000000000 < q + 1)
    (HP : Hid (∀ w, Calls Try.prog 29 #[.int .i64 x, .int .i64 y, .int .i64 d] w fun e w' => e = .returned (.tuple #[.int .i64 q, .int .i64 r, .bool true]) ∧ Below w.heap.size w w')) :
    Calls Try.prog 32 #[.int .i64 x, .int .i64 y, .int .i64 d, .int .i64 2] w fun e w' => e = .returned (.tuple #[.int .i64 0, .int .i64 5]) ∧ Below w.heap.size w w' := by
  have k1 : decide (d < 1) = false := by simp; omega
  have k2 : decide (100000000000000 < d) = false := by simp; omega
  go_enter Try.func32, Try.ntmps32
  go_wp2_with fail
  refine (right_yes _ _ h0 h1).mono ?_
  rintro e w' ⟨rfl, rfl⟩
  go_wp2_with fail
  refine (right_yes _ _ g0 g1).mono ?_
  rintro e w' ⟨rfl, rfl⟩
  go_wp2_with fail
  refine (HP.out _).mono ?_
  rintro e w' ⟨rfl, hb⟩
  go_wp2_with fail
  refine (right_no _ _ (Or.inr hv)).mono ?_
  rintro e w' ⟨rfl, rfl⟩
  go_wp2_with fail
  go_ret2
  exact ⟨rfl, hb⟩

theorem t_2cy (x y d q r : Int) (w : World) (h0 : 0 ≤ x) (h1 : x ≤ 100000000000000) (g0 : 0 ≤ y) (g1 : y ≤ 100000000000000) (d0 : 1 ≤ d) (d1 : d ≤ 100000000000000) (q0 : 0 ≤ q) (q1 : q ≤ 100000000000000) (r0 : 0 ≤ r) (r1 : r < d) (c : 2 * r ≤ d) (c2 : d ≤ 2 * r) (c3 : Hid (q % 2 = 1)) (hv : q + 1 ≤ 100000000000000)
    (HP : Hid (∀ w, Calls Try.prog 29 #[.int .i64 x, .int .i64 y, .int .i64 d] w fun e w' => e = .returned (.tuple #[.int .i64 q, .int .i64 r, .bool true]) ∧ Below w.heap.size w w')) :
    Calls Try.prog 32 #[.int .i64 x, .int .i64 y, .int .i64 d, .int .i64 2] w fun e w' => e = .returned (.tuple #[.int .i64 (q + 1), .int .i64 0]) ∧ Below w.heap.size w w' := by
  have k1 : decide (d < 1) = false := by simp; omega
  have k2 : decide (100000000000000 < d) = false := by simp; omega
  have e1 : (2 * r == d) = true := by simp; omega
  have e2 : (q % 2 == 1) = true := by have := c3.out; simp; omega
  go_enter Try.func32, Try.ntmps32
  go_wp2_with fail
  refine (right_yes _ _ h0 h1).mono ?_
  rintro e w' ⟨rfl, rfl⟩
  go_wp2_with fail
  refine (right_yes _ _ g0 g1).mono ?_
  rintro e w' ⟨rfl, rfl⟩
  go_wp2_with fail
  refine (HP.out _).mono ?_
  rintro e w' ⟨rfl, hb⟩
  go_wp2_with fail
  refine (right_yes _ _ (by omega) hv).mono ?_
  rintro e w' ⟨rfl, rfl⟩
  go_wp2_with fail
  go_ret2
  exact ⟨rfl, hb⟩

theorem t_2co (x y d q r : Int) (w : World) (h0 : 0 ≤ x) (h1 : x ≤ 100000000000000) (g0 : 0 ≤ y) (g1 : y ≤ 100000000000000) (d0 : 1 ≤ d) (d1 : d ≤ 100000000000000) (q0 : 0 ≤ q) (q1 : q ≤ 100000000000000) (r0 : 0 ≤ r) (r1 : r < d) (c : 2 * r ≤ d) (c2 : d ≤ 2 * r) (c3 : Hid (q % 2 = 1)) (hv : 100000000000000 < q + 1)
    (HP : Hid (∀ w, Calls Try.prog 29 #[.int .i64 x, .int .i64 y, .int .i64 d] w fun e w' => e = .returned (.tuple #[.int .i64 q, .int .i64 r, .bool true]) ∧ Below w.heap.size w w')) :
    Calls Try.prog 32 #[.int .i64 x, .int .i64 y, .int .i64 d, .int .i64 2] w fun e w' => e = .returned (.tuple #[.int .i64 0, .int .i64 5]) ∧ Below w.heap.size w w' := by
  have k1 : decide (d < 1) = false := by simp; omega
  have k2 : decide (100000000000000 < d) = false := by simp; omega
  have e1 : (2 * r == d) = true := by simp; omega
  have e2 : (q % 2 == 1) = true := by have := c3.out; simp; omega
  go_enter Try.func32, Try.ntmps32
  go_wp2_with fail
  refine (right_yes _ _ h0 h1).mono ?_
  rintro e w' ⟨rfl, rfl⟩
  go_wp2_with fail
  refine (right_yes _ _ g0 g1).mono ?_
  rintro e w' ⟨rfl, rfl⟩
  go_wp2_with fail
  refine (HP.out _).mono ?_
  rintro e w' ⟨rfl, hb⟩
  go_wp2_with fail
  refine (right_no _ _ (Or.inr hv)).mono ?_
  rintro e w' ⟨rfl, rfl⟩
  go_wp2_with fail
  go_ret2
  exact ⟨rfl, hb⟩

theorem t_2dy (x y d q r : Int) (w : World) (h0 : 0 ≤ x) (h1 : x ≤ 100000000000000) (g0 : 0 ≤ y) (g1 : y ≤ 100000000000000) (d0 : 1 ≤ d) (d1 : d ≤ 100000000000000) (q0 : 0 ≤ q) (q1 : q ≤ 100000000000000) (r0 : 0 ≤ r) (r1 : r < d) (c : 2 * r ≤ d) (c2 : d ≤ 2 * r) (c3 : Hid (¬ q % 2 = 1)) (hv : q ≤ 100000000000000)
    (HP : Hid (∀ w, Calls Try.prog 29 #[.int .i64 x, .int .i64 y, .int .i64 d] w fun e w' => e = .returned (.tuple #[.int .i64 q, .int .i64 r, .bool true]) ∧ Below w.heap.size w w')) :
    Calls Try.prog 32 #[.int .i64 x, .int .i64 y, .int .i64 d, .int .i64 2] w fun e w' => e = .returned (.tuple #[.int .i64 (q), .int .i64 0]) ∧ Below w.heap.size w w' := by
  have k1 : decide (d < 1) = false := by simp; omega
  have k2 : decide (100000000000000 < d) = false := by simp; omega
  have e1 : (2 * r == d) = true := by simp; omega
  have e2 : (q % 2 == 1) = false := by have := c3.out; simp; omega
  go_enter Try.func32, Try.ntmps32
  go_wp2_with fail
  refine (right_yes _ _ h0 h1).mono ?_
  rintro e w' ⟨rfl, rfl⟩
  go_wp2_with fail
  refine (right_yes _ _ g0 g1).mono ?_
  rintro e w' ⟨rfl, rfl⟩
  go_wp2_with fail
  refine (HP.out _).mono ?_
  rintro e w' ⟨rfl, hb⟩
  go_wp2_with fail
  refine (right_yes _ _ (by omega) hv).mono ?_
  rintro e w' ⟨rfl, rfl⟩
  go_wp2_with fail
  go_ret2
  exact ⟨rfl, hb⟩

end Go.Proofs.Ytmnbamfemcgloaa.Rf
