/- Plain numbers under math/bits.Div64: one digit of a long division. Nothing here speaks of the program. -/
set_option linter.unusedVariables false
namespace Go.Proofs.Ytmnbamfemcgloaa.Dv

/-- One digit: U below y = h 2^32 + l, behind it d; Q is the digit. -/
structure Digit (U d h l y Q : Int) : Prop where
  ey : y = h * 4294967296 + l
  h0 : 2147483648 ≤ h
  h1 : h < 4294967296
  l0 : 0 ≤ l
  l1 : l < 4294967296
  u0 : 0 ≤ U
  u1 : U < y
  d0 : 0 ≤ d
  d1 : d < 4294967296
  q0 : 0 ≤ Q
  lo : Q * y ≤ U * 4294967296 + d
  hi : U * 4294967296 + d < (Q + 1) * y

theorem Digit.mk' (U d y : Int) (y0 : 9223372036854775808 ≤ y) (y1 : y < 18446744073709551616) (u0 : 0 ≤ U) (u1 : U < y) (d0 : 0 ≤ d) (d1 : d < 4294967296) :
    Digit U d (y / 4294967296) (y % 4294967296) y ((U * 4294967296 + d) / y) :=
  ⟨by omega, by omega, by omega, by omega, by omega, u0, u1, d0, d1, Int.ediv_nonneg (by omega) (by omega), Int.ediv_mul_le _ (by omega), Int.lt_ediv_add_one_mul_self _ (by omega)⟩

variable {U d h l y Q q r : Int}

theorem Digit.small (D : Digit U d h l y Q) : Q < 4294967296 := by
  obtain ⟨ey, h0, h1, l0, l1, u0, u1, d0, d1, q0, lo, hi⟩ := D
  have a : U * 4294967296 + d < 4294967296 * y := by omega
  have b : Q * y < 4294967296 * y := by omega
  exact Int.lt_of_mul_lt_mul_right b (by omega)

theorem split (q h l y : Int) (ey : y = h * 4294967296 + l) : q * y = q * h * 4294967296 + q * l := by
  rw [ey, Int.mul_add, Int.mul_assoc]

theorem Digit.more (D : Digit U d h l y Q) (e : q * h + r = U) (t : 4294967296 ≤ q ∨ 4294967296 * r + d < q * l) : Q + 1 ≤ q := by
  have s := D.small
  rcases t with t | t
  · omega
  · have lo := D.lo
    have e2 := split q h l y D.ey
    generalize q * h = a at *
    generalize q * l = b at *
    have k : Q * y < q * y := by omega
    have := Int.lt_of_mul_lt_mul_right k (by have := D.u0; have := D.u1; omega)
    omega

theorem Digit.less (D : Digit U d h l y Q) (e : q * h + r = U) (t : q * l ≤ 4294967296 * r + d) : q ≤ Q := by
  have hi := D.hi
  have e2 := split q h l y D.ey
  generalize q * h = a at *
  generalize q * l = b at *
  have k : q * y < (Q + 1) * y := by omega
  have := Int.lt_of_mul_lt_mul_right k (by have := D.u0; have := D.u1; omega)
  omega

theorem Digit.stop (D : Digit U d h l y Q) (e : q * h + r = U) (r0 : 4294967296 ≤ r) (q0 : 0 ≤ q) (q1 : q ≤ 4294967296) : q ≤ Q := by
  refine D.less e ?_
  have k : q * l ≤ 4294967296 * 4294967295 := Int.mul_le_mul q1 (by have := D.l1; omega) D.l0 (by omega)
  have := D.d0
  omega

theorem Digit.start (D : Digit U d h l y Q) : U / h * h + (U - U / h * h) = U ∧ 0 ≤ U - U / h * h ∧ U - U / h * h < h ∧ Q ≤ U / h ∧ 0 ≤ U / h ∧ U / h ≤ 4294967297 := by
  have hp : 0 < h := by have := D.h0; omega
  have m := Int.mul_ediv_add_emod U h
  have m0 := Int.emod_nonneg U (show h ≠ 0 by omega)
  have m1 := Int.emod_lt_of_pos U hp
  rw [Int.mul_comm] at m
  refine ⟨by omega, by omega, by omega, ?_, Int.ediv_nonneg D.u0 (by omega), ?_⟩
  · refine Int.le_ediv_of_mul_le hp ?_
    have e2 := split Q h l y D.ey
    have k : 0 ≤ Q * l := Int.mul_nonneg D.q0 D.l0
    have := D.lo
    have := D.d1
    generalize Q * h = a at *
    generalize Q * l = b at *
    omega
  · have k : U / h * h ≤ U := Int.ediv_mul_le _ (by omega)
    have u1 := D.u1
    have ey := D.ey
    have l1 := D.l1
    have h0 := D.h0
    have k2 : U / h * h < 4294967298 * h := by omega
    have := Int.lt_of_mul_lt_mul_right k2 (by omega)
    omega

/-- Where the walk's loop ends. -/
theorem Digit.done (D : Digit U d h l y Q) (a : Q ≤ q) (b : q ≤ Q) : q = Q := by omega

/-- The two digits are the quotient, and what is left behind the second one is the remainder. -/
theorem twoDigits (U d1 d0 y Q1 R1 Q0 : Int) (y0 : 0 < y) (e1 : R1 = U * 4294967296 + d1 - Q1 * y) (b0 : Q0 * y ≤ R1 * 4294967296 + d0) (b1 : R1 * 4294967296 + d0 < (Q0 + 1) * y) :
    (U * 18446744073709551616 + d1 * 4294967296 + d0) / y = Q1 * 4294967296 + Q0 ∧ (U * 18446744073709551616 + d1 * 4294967296 + d0) % y = R1 * 4294967296 + d0 - Q0 * y := by
  have k : U * 18446744073709551616 + d1 * 4294967296 + d0 = (R1 * 4294967296 + d0 - Q0 * y) + (Q1 * 4294967296 + Q0) * y := by
    rw [e1, Int.add_mul, Int.mul_right_comm Q1 4294967296 y]
    omega
  have k2 : (Q0 + 1) * y = Q0 * y + y := by rw [Int.add_mul, Int.one_mul]
  rw [k, Int.add_mul_ediv_right _ _ (by omega), Int.add_mul_emod_self_right, Int.ediv_eq_zero_of_lt (by omega) (by omega), Int.emod_eq_of_lt (by omega) (by omega)]
  exact ⟨by omega, rfl⟩

/-- Both sides by one power of two. -/
theorem scaled (N y p : Int) (hp : 0 < p) (hy : 0 < y) : N * p / (y * p) = N / y ∧ N * p % (y * p) = N % y * p := by
  refine ⟨Int.mul_ediv_mul_of_pos_left N y hp, ?_⟩
  have a := Int.mul_ediv_mul_of_pos_left N y hp
  have b := Int.mul_ediv_add_emod (N * p) (y * p)
  have c := Int.mul_ediv_add_emod N y
  rw [a] at b
  have e : N * p = y * p * (N / y) + N % y * p := by
    rw [Int.mul_right_comm, ← Int.add_mul, c]
  omega

/-- What Div64 makes ready: P and R are powers of two, P R = 2^64; y P is normal. -/
theorem prep (hi lo y P R : Int) (hP : 0 < P) (hR : 0 < R) (e : P * R = 18446744073709551616) (a0 : 1 ≤ hi) (a1 : hi < y) (b0 : 0 ≤ lo) (b1 : lo ≤ 18446744073709551615) (yR : y < R) (yR2 : R ≤ 2 * y) :
    9223372036854775808 ≤ y * P ∧ y * P < 18446744073709551616 ∧ 0 ≤ hi * P ∧ hi * P < 18446744073709551616 ∧ 0 ≤ lo / R ∧ lo / R < P ∧ hi * P + lo / R < y * P ∧
    0 ≤ lo % R * P ∧ lo % R * P < 18446744073709551616 ∧ lo * P % 18446744073709551616 = lo % R * P ∧ (hi * 18446744073709551616 + lo) * P = (hi * P + lo / R) * 18446744073709551616 + lo % R * P := by
  have z0 : 0 ≤ lo / R := Int.ediv_nonneg b0 (by omega)
  have z1 : lo / R < P := Int.ediv_lt_of_lt_mul hR (by omega)
  have m := Int.mul_ediv_add_emod lo R
  have m0 := Int.emod_nonneg lo (show R ≠ 0 by omega)
  have m1 := Int.emod_lt_of_pos lo hR
  have y1 : y * P < R * P := Int.mul_lt_mul_of_pos_right yR hP
  have y2 : R * P ≤ 2 * y * P := Int.mul_le_mul_of_nonneg_right yR2 (by omega)
  have y3 : 2 * y * P = 2 * (y * P) := Int.mul_assoc 2 y P
  have x0 : 0 ≤ hi * P := Int.mul_nonneg (by omega) (by omega)
  have x1 : (hi + 1) * P ≤ y * P := Int.mul_le_mul_of_nonneg_right (by omega) (by omega)
  have x2 : (hi + 1) * P = hi * P + P := by rw [Int.add_mul, Int.one_mul]
  have v0 : 0 ≤ lo % R * P := Int.mul_nonneg m0 (by omega)
  have v1 : lo % R * P < R * P := Int.mul_lt_mul_of_pos_right m1 hP
  have e2 : R * P = 18446744073709551616 := by rw [Int.mul_comm]; exact e
  have k : lo * P = lo / R * 18446744073709551616 + lo % R * P := by
    conv => lhs; rw [← m]
    rw [Int.add_mul, Int.mul_comm R, Int.mul_assoc, e2]
  have k2 : (hi * 18446744073709551616 + lo) * P = hi * P * 18446744073709551616 + lo * P := by
    rw [Int.add_mul, Int.mul_right_comm]
  refine ⟨by omega, by omega, x0, by omega, z0, z1, by omega, v0, by omega, ?_, ?_⟩
  · rw [k, Int.add_comm, Int.add_mul_emod_self_right]
    exact Int.emod_eq_of_lt v0 (by omega)
  · rw [k2, k, Int.add_mul]
    omega

end Go.Proofs.Ytmnbamfemcgloaa.Dv
