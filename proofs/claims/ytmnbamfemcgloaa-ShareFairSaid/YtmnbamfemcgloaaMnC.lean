/- Contracts of package money's exported calls: Times, Rate, Mul, Add, Sub, for every number. -/
import Derived.Test.YtmnbamfemcgloaaMnB
namespace Go.Proofs.Ytmnbamfemcgloaa.Mn
set_option linter.unusedVariables false
open Go.ChangeShapes Go.WideShapes Go.ChangeAt Go.RowKit

/-! What may not be asked: ErrArg. -/
theorem times_y (x y d way : Int) (w : World) (h0 : 0 ≤ x) (h1 : x ≤ 100000000000000) (h : y < 0 ∨ 100000000000000 < y) :
    Calls Try.prog 31 #[.int .i64 x, .int .i64 y, .int .i64 d, .int .i64 way] w fun e w' => e = .returned (.tuple #[.int .i64 0, .int .i64 2]) ∧ Below w.heap.size w w' := by
  go_enter Try.func31, Try.ntmps31
  go_wp2_with fail
  refine (right_yes _ _ h0 h1).mono ?_
  rintro e w' ⟨rfl, rfl⟩
  go_wp2_with fail
  refine (right_no _ _ h).mono ?_
  rintro e w' ⟨rfl, rfl⟩
  go_wp2_with fail
  go_ret2
  exact ⟨rfl, ((Below.refl _ _).alloc (Nat.le_refl _) _)⟩

theorem times_d (x y d way : Int) (w : World) (h0 : 0 ≤ x) (h1 : x ≤ 100000000000000) (g0 : 0 ≤ y) (g1 : y ≤ 100000000000000) (h : d < 1) :
    Calls Try.prog 31 #[.int .i64 x, .int .i64 y, .int .i64 d, .int .i64 way] w fun e w' => e = .returned (.tuple #[.int .i64 0, .int .i64 2]) ∧ Below w.heap.size w w' := by
  have hd : decide (d < 1) = true := by simp; omega
  go_enter Try.func31, Try.ntmps31
  go_wp2_with fail
  refine (right_yes _ _ h0 h1).mono ?_
  rintro e w' ⟨rfl, rfl⟩
  go_wp2_with fail
  refine (right_yes _ _ g0 g1).mono ?_
  rintro e w' ⟨rfl, rfl⟩
  go_wp2_with fail
  go_ret2
  exact ⟨rfl, ((Below.refl _ _).alloc (Nat.le_refl _) _)⟩

theorem times_e (x y d way : Int) (w : World) (h0 : 0 ≤ x) (h1 : x ≤ 100000000000000) (g0 : 0 ≤ y) (g1 : y ≤ 100000000000000) (d0 : 1 ≤ d) (h : 100000000000000 < d) :
    Calls Try.prog 31 #[.int .i64 x, .int .i64 y, .int .i64 d, .int .i64 way] w fun e w' => e = .returned (.tuple #[.int .i64 0, .int .i64 2]) ∧ Below w.heap.size w w' := by
  have hd : decide (d < 1) = false := by simp; omega
  have hd2 : decide (100000000000000 < d) = true := by simp; omega
  go_enter Try.func31, Try.ntmps31
  go_wp2_with fail
  refine (right_yes _ _ h0 h1).mono ?_
  rintro e w' ⟨rfl, rfl⟩
  go_wp2_with fail
  refine (right_yes _ _ g0 g1).mono ?_
  rintro e w' ⟨rfl, rfl⟩
  go_wp2_with fail
  go_ret2
  exact ⟨rfl, ((Below.refl _ _).alloc (Nat.le_refl _) _)⟩

theorem times_w (x y d way : Int) (w : World) (h0 : 0 ≤ x) (h1 : x ≤ 100000000000000) (g0 : 0 ≤ y) (g1 : y ≤ 100000000000000) (d0 : 1 ≤ d) (d1 : d ≤ 100000000000000) (h : way < 0) :
    Calls Try.prog 31 #[.int .i64 x, .int .i64 y, .int .i64 d, .int .i64 way] w fun e w' => e = .returned (.tuple #[.int .i64 0, .int .i64 2]) ∧ Below w.heap.size w w' := by
  have hd : decide (d < 1) = false := by simp; omega
  have hd2 : decide (100000000000000 < d) = false := by simp; omega
  have hd3 : decide (way < 0) = true := by simp; omega
  go_enter Try.func31, Try.ntmps31
  go_wp2_with fail
  refine (right_yes _ _ h0 h1).mono ?_
  rintro e w' ⟨rfl, rfl⟩
  go_wp2_with fail
  refine (right_yes _ _ g0 g1).mono ?_
  rintro e w' ⟨rfl, rfl⟩
  go_wp2_with fail
  go_ret2
  exact ⟨rfl, ((Below.refl _ _).alloc (Nat.le_refl _) _)⟩

theorem times_v (x y d way : Int) (w : World) (h0 : 0 ≤ x) (h1 : x ≤ 100000000000000) (g0 : 0 ≤ y) (g1 : y ≤ 100000000000000) (d0 : 1 ≤ d) (d1 : d ≤ 100000000000000) (h : 3 ≤ way) :
    Calls Try.prog 31 #[.int .i64 x, .int .i64 y, .int .i64 d, .int .i64 way] w fun e w' => e = .returned (.tuple #[.int .i64 0, .int .i64 2]) ∧ Below w.heap.size w w' := by
  have hd : decide (d < 1) = false := by simp; omega
  have hd2 : decide (100000000000000 < d) = false := by simp; omega
  have hd3 : decide (way < 0) = false := by simp; omega
  have hd4 : decide (3 ≤ way) = true := by simp; omega
  go_enter Try.func31, Try.ntmps31
  go_wp2_with fail
  refine (right_yes _ _ h0 h1).mono ?_
  rintro e w' ⟨rfl, rfl⟩
  go_wp2_with fail
  refine (right_yes _ _ g0 g1).mono ?_
  rintro e w' ⟨rfl, rfl⟩
  go_wp2_with fail
  go_ret2
  exact ⟨rfl, ((Below.refl _ _).alloc (Nat.le_refl _) _)⟩

/-- Where divide says no: ErrRange. -/
theorem times_no (x y d way : Int) (w : World) (h0 : 0 ≤ x) (h1 : x ≤ 100000000000000) (g0 : 0 ≤ y) (g1 : y ≤ 100000000000000) (d0 : 1 ≤ d) (d1 : d ≤ 100000000000000) (w0 : 0 ≤ way) (w1 : way ≤ 2)
    (HV : Hid (∀ w, Calls Try.prog 44 #[.int .i64 x, .int .i64 y, .int .i64 d] w fun e w' => e = .returned (.tuple #[.agg #[.int .i64 0, .int .i64 0, .int .i64 0], .bool false]) ∧ Below w.heap.size w w')) :
    Calls Try.prog 31 #[.int .i64 x, .int .i64 y, .int .i64 d, .int .i64 way] w fun e w' => e = .returned (.tuple #[.int .i64 0, .int .i64 5]) ∧ Below w.heap.size w w' := by
  have hd : decide (d < 1) = false := by simp; omega
  have hd2 : decide (100000000000000 < d) = false := by simp; omega
  have hd3 : decide (way < 0) = false := by simp; omega
  have hd4 : decide (3 ≤ way) = false := by simp; omega
  go_enter Try.func31, Try.ntmps31
  go_wp2_with fail
  refine (right_yes _ _ h0 h1).mono ?_
  rintro e w' ⟨rfl, rfl⟩
  go_wp2_with fail
  refine (right_yes _ _ g0 g1).mono ?_
  rintro e w' ⟨rfl, rfl⟩
  go_wp2_with fail
  refine (HV.out _).mono ?_
  rintro e w' ⟨rfl, hb⟩
  have hz := hb.size
  have hz0 : w.heap.size + 1 ≤ w'.heap.size := by simpa using hz
  go_wp2_with fail
  go_ret2
  exact ⟨rfl, (((Below.refl _ _).alloc (Nat.le_refl _) _).trans (hb.mono (by simp))).alloc (by omega) _⟩

/-! The numbers. -/
theorem rnd_ge (way q r d : Int) (hq : 0 ≤ q) : q ≤ rnd way q r d := by
  unfold rnd
  split
  · omega
  · split
    · omega
    · split <;> omega

theorem high_small (N d : Int) (hd : 1 ≤ d) (hq : N / d ≤ 100000000000000) : N / 18446744073709551616 < d := by
  have h1 : N < (N / d + 1) * d := Int.lt_ediv_add_one_mul_self N (by omega)
  have h2 : (N / d + 1) * d ≤ 100000000000001 * d := Int.mul_le_mul_of_nonneg_right (by omega) (by omega)
  omega

def timesV (way x y d : Int) : Int := if rnd way (x * y / d) (x * y % d) d ≤ 100000000000000 then rnd way (x * y / d) (x * y % d) d else 0
def timesE (way x y d : Int) : Int := if rnd way (x * y / d) (x * y % d) d ≤ 100000000000000 then 0 else 5

theorem mul_gives (x y : Int) (h0 : 0 ≤ x) (h1 : x ≤ 100000000000000) (g0 : 0 ≤ y) (g1 : y ≤ 100000000000000) :
    MulGives x y (x * y / 18446744073709551616) (x * y % 18446744073709551616) := by
  intro w
  obtain ⟨a, rfl⟩ := Int.eq_ofNat_of_zero_le h0
  obtain ⟨b, rfl⟩ := Int.eq_ofNat_of_zero_le g0
  have h := mul64_nat a b (by omega) (by omega) w
  have e1 : ((a * b / 18446744073709551616 : Nat) : Int) = (a : Int) * (b : Int) / 18446744073709551616 := by rw [← Int.natCast_mul]; omega
  have e2 : ((a * b % 18446744073709551616 : Nat) : Int) = (a : Int) * (b : Int) % 18446744073709551616 := by rw [← Int.natCast_mul]; omega
  rw [e1, e2] at h
  exact h

/-- What Div64 is asked for. -/
def DivNeed (x y d : Int) : Prop := x * y / 18446744073709551616 < d → DivGives (x * y / 18446744073709551616) (x * y % 18446744073709551616) d (x * y / d) (x * y % d)

theorem need_small (x y d : Int) (h0 : 0 ≤ x * y) (h1 : x * y < 18446744073709551616) (d0 : 1 ≤ d) (d1 : d ≤ 100000000000000) : DivNeed x y d := by
  intro _ w
  have h := div64_zero (x * y) d h0 h1 d0 d1 w
  have e : (0 : Int) * 18446744073709551616 + x * y = x * y := by omega
  have e1 : x * y / 18446744073709551616 = 0 := by omega
  have e2 : x * y % 18446744073709551616 = x * y := by omega
  rw [e] at h
  rw [e1, e2]
  exact h

theorem times_any (way x y d : Int) (w : World) (h0 : 0 ≤ x) (h1 : x ≤ 100000000000000) (g0 : 0 ≤ y) (g1 : y ≤ 100000000000000) (d0 : 1 ≤ d) (d1 : d ≤ 100000000000000) (w0 : 0 ≤ way) (w1 : way ≤ 2) (hD : DivNeed x y d) :
    Calls Try.prog 31 #[.int .i64 x, .int .i64 y, .int .i64 d, .int .i64 way] w fun e w' => e = .returned (.tuple #[.int .i64 (timesV way x y d), .int .i64 (timesE way x y d)]) ∧ Below w.heap.size w w' := by
  have hN : 0 ≤ x * y := Int.mul_nonneg h0 g0
  have hq0 : 0 ≤ x * y / d := Int.ediv_nonneg hN (by omega)
  have hr0 : 0 ≤ x * y % d := Int.emod_nonneg _ (by omega)
  have hr1 : x * y % d < d := Int.emod_lt_of_pos _ (by omega)
  have hge := rnd_ge way (x * y / d) (x * y % d) d hq0
  have hM := mul_gives x y h0 h1 g0 g1
  unfold timesV timesE
  by_cases hq : x * y / d ≤ 100000000000000
  · have hhi := high_small (x * y) d d0 hq
    have HV := Lib.hid (fun w => divide_ok x y d _ _ _ _ w h0 h1 g0 g1 d0 d1 hM (hD hhi) hhi hq0 hq hr0 hr1)
    by_cases hv : rnd way (x * y / d) (x * y % d) d ≤ 100000000000000
    · rw [if_pos hv, if_pos hv]
      have HR := Lib.hid (fun w => ranged_yes (rnd way (x * y / d) (x * y % d) d) w (by omega) hv)
      obtain rfl | rfl | rfl : way = 0 ∨ way = 1 ∨ way = 2 := by omega
      · exact times_way0 _ _ _ _ _ x y w h0 h1 g0 g1 d0 d1 HV (Lib.hid (fun w => down_any _ _ _ w)) HR
      · exact times_way1 _ _ _ _ _ x y w h0 h1 g0 g1 d0 d1 HV (Lib.hid (fun w => halfUp_any _ _ _ w hr0 (by omega) hq0 hq)) HR
      · exact times_way2 _ _ _ _ _ x y w h0 h1 g0 g1 d0 d1 HV (Lib.hid (fun w => halfEven_any _ _ _ w hr0 (by omega) hq0 hq)) HR
    · rw [if_neg hv, if_neg hv]
      have HR := Lib.hid (fun w => ranged_no (rnd way (x * y / d) (x * y % d) d) w (by omega))
      obtain rfl | rfl | rfl : way = 0 ∨ way = 1 ∨ way = 2 := by omega
      · exact times_way0 _ _ _ _ _ x y w h0 h1 g0 g1 d0 d1 HV (Lib.hid (fun w => down_any _ _ _ w)) HR
      · exact times_way1 _ _ _ _ _ x y w h0 h1 g0 g1 d0 d1 HV (Lib.hid (fun w => halfUp_any _ _ _ w hr0 (by omega) hq0 hq)) HR
      · exact times_way2 _ _ _ _ _ x y w h0 h1 g0 g1 d0 d1 HV (Lib.hid (fun w => halfEven_any _ _ _ w hr0 (by omega) hq0 hq)) HR
  · rw [if_neg (by omega), if_neg (by omega)]
    by_cases hhi : x * y / 18446744073709551616 < d
    · exact times_no x y d way w h0 h1 g0 g1 d0 d1 w0 w1 (Lib.hid (fun w => divide_over x y d _ _ _ _ w h0 h1 g0 g1 d0 d1 hM (hD hhi) hhi (by omega)))
    · exact times_no x y d way w h0 h1 g0 g1 d0 d1 w0 w1 (Lib.hid (fun w => divide_high x y d _ _ w h0 h1 g0 g1 d0 d1 hM (by omega)))

/-- ErrArg, where anything is not as it must be. -/
theorem times_bad (way x y d : Int) (w : World) (h : x < 0 ∨ 100000000000000 < x ∨ y < 0 ∨ 100000000000000 < y ∨ d < 1 ∨ 100000000000000 < d ∨ way < 0 ∨ 2 < way) :
    Calls Try.prog 31 #[.int .i64 x, .int .i64 y, .int .i64 d, .int .i64 way] w fun e w' => e = .returned (.tuple #[.int .i64 0, .int .i64 2]) ∧ Below w.heap.size w w' := by
  by_cases hx : x < 0 ∨ 100000000000000 < x
  · exact times_x x y d way w hx
  by_cases hy : y < 0 ∨ 100000000000000 < y
  · exact times_y x y d way w (by omega) (by omega) hy
  by_cases hd : d < 1
  · exact times_d x y d way w (by omega) (by omega) (by omega) (by omega) hd
  by_cases he : 100000000000000 < d
  · exact times_e x y d way w (by omega) (by omega) (by omega) (by omega) (by omega) he
  by_cases hw : way < 0
  · exact times_w x y d way w (by omega) (by omega) (by omega) (by omega) (by omega) (by omega) hw
  · exact times_v x y d way w (by omega) (by omega) (by omega) (by omega) (by omega) (by omega) (by omega)

theorem times_is (way x y d v e5 : Int) (w : World) (h0 : 0 ≤ x) (h1 : x ≤ 100000000000000) (g0 : 0 ≤ y) (g1 : y ≤ 100000000000000) (d0 : 1 ≤ d) (d1 : d ≤ 100000000000000) (w0 : 0 ≤ way) (w1 : way ≤ 2) (hD : DivNeed x y d)
    (hv : timesV way x y d = v ∧ timesE way x y d = e5) :
    Calls Try.prog 31 #[.int .i64 x, .int .i64 y, .int .i64 d, .int .i64 way] w fun e w' => e = .returned (.tuple #[.int .i64 v, .int .i64 e5]) ∧ Below w.heap.size w w' := by
  rw [← hv.1, ← hv.2]
  exact times_any way x y d w h0 h1 g0 g1 d0 d1 w0 w1 hD

theorem parts_of (N q r d : Int) (h : N = q * d + r) (r0 : 0 ≤ r) (r1 : r < d) : N / d = q ∧ N % d = r := by
  have hd : d ≠ 0 := by omega
  rw [h, Int.add_comm]
  exact ⟨by rw [Int.add_mul_ediv_right _ _ hd, Int.ediv_eq_zero_of_lt r0 r1]; omega, by rw [Int.add_mul_emod_self_right]; exact Int.emod_eq_of_lt r0 r1⟩

theorem times_eq (way x y d q r v : Int) (h : x * y = q * d + r) (r0 : 0 ≤ r) (r1 : r < d) (hv : rnd way q r d = v) (hm : v ≤ 100000000000000) : timesV way x y d = v ∧ timesE way x y d = 0 := by
  obtain ⟨hq, hr⟩ := parts_of (x * y) q r d h r0 r1
  unfold timesV timesE
  rw [hq, hr, hv, if_pos hm, if_pos hm]
  exact ⟨rfl, rfl⟩

theorem add_ok (a b : Int) (w : World) (h0 : 0 ≤ a) (h1 : a ≤ 100000000000000) (g0 : 0 ≤ b) (g1 : b ≤ 100000000000000) (h : a + b ≤ 100000000000000) :
    Calls Try.prog 36 #[.int .i64 a, .int .i64 b] w fun e w' => e = .returned (.tuple #[.int .i64 (a + b), .int .i64 0]) ∧ w = w' := by
  go_enter Try.func36, Try.ntmps36
  go_wp2_with fail
  refine (right_yes _ _ h0 h1).mono ?_
  rintro e w' ⟨rfl, rfl⟩
  go_wp2_with fail
  refine (right_yes _ _ g0 g1).mono ?_
  rintro e w' ⟨rfl, rfl⟩
  go_wp2_with fail
  refine (ranged_yes _ _ (by omega) h).mono ?_
  rintro e w' ⟨rfl, rfl⟩
  go_wp2
  go_ret2
  exact ⟨rfl, rfl⟩

theorem add_over (a b : Int) (w : World) (h0 : 0 ≤ a) (h1 : a ≤ 100000000000000) (g0 : 0 ≤ b) (g1 : b ≤ 100000000000000) (h : 100000000000000 < a + b) :
    Calls Try.prog 36 #[.int .i64 a, .int .i64 b] w fun e w' => e = .returned (.tuple #[.int .i64 0, .int .i64 5]) ∧ w = w' := by
  go_enter Try.func36, Try.ntmps36
  go_wp2_with fail
  refine (right_yes _ _ h0 h1).mono ?_
  rintro e w' ⟨rfl, rfl⟩
  go_wp2_with fail
  refine (right_yes _ _ g0 g1).mono ?_
  rintro e w' ⟨rfl, rfl⟩
  go_wp2_with fail
  refine (ranged_no _ _ (Or.inr h)).mono ?_
  rintro e w' ⟨rfl, rfl⟩
  go_wp2
  go_ret2
  exact ⟨rfl, rfl⟩

theorem add_bad (a b : Int) (w : World) (h : a < 0 ∨ 100000000000000 < a ∨ b < 0 ∨ 100000000000000 < b) :
    Calls Try.prog 36 #[.int .i64 a, .int .i64 b] w fun e w' => e = .returned (.tuple #[.int .i64 0, .int .i64 2]) ∧ w = w' := by
  by_cases ha : a < 0 ∨ 100000000000000 < a
  · go_enter Try.func36, Try.ntmps36
    go_wp2_with fail
    refine (right_no _ _ ha).mono ?_
    rintro e w' ⟨rfl, rfl⟩
    go_wp2
    go_ret2
    exact ⟨rfl, rfl⟩
  · have h0 : 0 ≤ a := by omega
    have h1 : a ≤ 100000000000000 := by omega
    have h2 : b < 0 ∨ 100000000000000 < b := by omega
    clear h ha
    go_enter Try.func36, Try.ntmps36
    go_wp2_with fail
    refine (right_yes _ _ h0 h1).mono ?_
    rintro e w' ⟨rfl, rfl⟩
    go_wp2_with fail
    refine (right_no _ _ h2).mono ?_
    rintro e w' ⟨rfl, rfl⟩
    go_wp2
    go_ret2
    exact ⟨rfl, rfl⟩

theorem sub_ok (a b : Int) (w : World) (h0 : 0 ≤ a) (h1 : a ≤ 100000000000000) (g0 : 0 ≤ b) (g1 : b ≤ 100000000000000) (h : b ≤ a) :
    Calls Try.prog 33 #[.int .i64 a, .int .i64 b] w fun e w' => e = .returned (.tuple #[.int .i64 (a - b), .int .i64 0]) ∧ w = w' := by
  go_enter Try.func33, Try.ntmps33
  go_wp2_with fail
  refine (right_yes _ _ h0 h1).mono ?_
  rintro e w' ⟨rfl, rfl⟩
  go_wp2_with fail
  refine (right_yes _ _ g0 g1).mono ?_
  rintro e w' ⟨rfl, rfl⟩
  go_wp2_with fail
  refine (ranged_yes _ _ (by omega) (by omega)).mono ?_
  rintro e w' ⟨rfl, rfl⟩
  go_wp2
  go_ret2
  exact ⟨rfl, rfl⟩

theorem sub_over (a b : Int) (w : World) (h0 : 0 ≤ a) (h1 : a ≤ 100000000000000) (g0 : 0 ≤ b) (g1 : b ≤ 100000000000000) (h : a < b) :
    Calls Try.prog 33 #[.int .i64 a, .int .i64 b] w fun e w' => e = .returned (.tuple #[.int .i64 0, .int .i64 5]) ∧ w = w' := by
  go_enter Try.func33, Try.ntmps33
  go_wp2_with fail
  refine (right_yes _ _ h0 h1).mono ?_
  rintro e w' ⟨rfl, rfl⟩
  go_wp2_with fail
  refine (right_yes _ _ g0 g1).mono ?_
  rintro e w' ⟨rfl, rfl⟩
  go_wp2_with fail
  refine (ranged_no _ _ (by omega)).mono ?_
  rintro e w' ⟨rfl, rfl⟩
  go_wp2
  go_ret2
  exact ⟨rfl, rfl⟩

theorem sub_bad (a b : Int) (w : World) (h : a < 0 ∨ 100000000000000 < a ∨ b < 0 ∨ 100000000000000 < b) :
    Calls Try.prog 33 #[.int .i64 a, .int .i64 b] w fun e w' => e = .returned (.tuple #[.int .i64 0, .int .i64 2]) ∧ w = w' := by
  by_cases ha : a < 0 ∨ 100000000000000 < a
  · go_enter Try.func33, Try.ntmps33
    go_wp2_with fail
    refine (right_no _ _ ha).mono ?_
    rintro e w' ⟨rfl, rfl⟩
    go_wp2
    go_ret2
    exact ⟨rfl, rfl⟩
  · have h0 : 0 ≤ a := by omega
    have h1 : a ≤ 100000000000000 := by omega
    have h2 : b < 0 ∨ 100000000000000 < b := by omega
    clear h ha
    go_enter Try.func33, Try.ntmps33
    go_wp2_with fail
    refine (right_yes _ _ h0 h1).mono ?_
    rintro e w' ⟨rfl, rfl⟩
    go_wp2_with fail
    refine (right_no _ _ h2).mono ?_
    rintro e w' ⟨rfl, rfl⟩
    go_wp2
    go_ret2
    exact ⟨rfl, rfl⟩

end Go.Proofs.Ytmnbamfemcgloaa.Mn
