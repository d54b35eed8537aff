/- math/bits.Div64 and package money's Times, for every number that may be asked. -/
import Derived.Test.YtmnbamfemcgloaaDvC
import Derived.Test.YtmnbamfemcgloaaMnC
import Derived.Laws.MathBits
set_option linter.unusedVariables false
namespace Go.Proofs.Ytmnbamfemcgloaa.Dv
open Go.ChangeShapes Go.WideShapes Go.ChangeAt Go.RowKit

theorem powAdd (a : Nat) : ∀ b : Nat, (2 : Int) ^ a * 2 ^ b = 2 ^ (a + b)
  | 0 => by simp
  | b + 1 => by rw [Int.pow_succ, ← Int.mul_assoc, powAdd a b, ← Int.pow_succ]; rfl

theorem powPos (a : Nat) : (0 : Int) < 2 ^ a := Int.pow_pos (by omega)

theorem powLe (a b : Nat) (h : a ≤ b) : (2 : Int) ^ a ≤ 2 ^ b := by
  obtain ⟨c, rfl⟩ := Nat.exists_eq_add_of_le h
  rw [← powAdd]
  have h1 := powPos a
  have h2 := powPos c
  have h3 : (2 : Int) ^ a * 1 ≤ 2 ^ a * 2 ^ c := Int.mul_le_mul_of_nonneg_left (by omega) (by omega)
  omega

theorem orAdd (a P Z : Int) (s : Nat) (hP : P = 2 ^ s) (a0 : 0 ≤ a) (x1 : a * P < 18446744073709551616) (z0 : 0 ≤ Z) (z1 : Z < P) (x2 : Z < 18446744073709551616) : bits .or .u64 (a * P) Z = a * P + Z := by
  obtain ⟨n, rfl⟩ := Int.eq_ofNat_of_zero_le a0
  obtain ⟨m, rfl⟩ := Int.eq_ofNat_of_zero_le z0
  have e : ((n : Int)) * P = ((n * 2 ^ s : Nat) : Int) := by rw [hP]; simp
  rw [e] at x1 ⊢
  have k : m < 2 ^ s := by rw [hP] at z1; exact_mod_cast z1
  rw [u64_or_nat _ _ (by omega) (by omega), Nat.mul_comm, ← Nat.two_pow_add_eq_or_of_lt k n]
  simp

theorem wrapAll (a k c r : Int) (h : a * 4294967296 + k - c = r) (r0 : 0 ≤ r) (r1 : r < 18446744073709551616) :
    IntKind.u64.wrap (IntKind.u64.wrap (IntKind.u64.wrap (a * 4294967296) + k) - IntKind.u64.wrap c) = r := by
  simp only [IntKind.wrap_u64]
  omega

theorem div64_full (hi lo d : Int) (a0 : 1 ≤ hi) (a1 : hi < d) (b0 : 0 ≤ lo) (b1 : lo ≤ 18446744073709551615) (d1 : d ≤ 100000000000000) :
    Mn.DivGives hi lo d ((hi * 18446744073709551616 + lo) / d) ((hi * 18446744073709551616 + lo) % d) := by
  intro w
  obtain ⟨k1, k2, k3, k4⟩ := bits_of d (by omega) (by omega)
  obtain ⟨n, hn⟩ : ∃ n, n = Lib.bitLen d.toNat := ⟨_, rfl⟩
  rw [← hn] at k1 k2 k3 k4
  have n47 : n ≤ 47 := by
    by_cases h : n ≤ 47
    · exact h
    · have := powLe 47 (n - 1) (by omega)
      have e : (2 : Int) ^ 47 = 140737488355328 := by decide
      omega
  obtain ⟨s, hs⟩ : ∃ s, s = 64 - n := ⟨_, rfl⟩
  have en : n = 64 - s := by omega
  have pr : (2 : Int) ^ s * 2 ^ (64 - s) = 18446744073709551616 := by
    rw [powAdd, show s + (64 - s) = 64 by omega]
    decide
  have rr : (2 : Int) ^ (64 - s) ≤ 2 * d := by
    have : (2 : Int) ^ n = 2 ^ (n - 1) * 2 := by rw [← Int.pow_succ, show (n - 1).succ = n by omega]
    rw [← en]
    omega
  rw [en] at k2
  obtain ⟨c1, c2, c3, c4, c5, c6, c7, c8, c9, c10, c11⟩ := prep hi lo d (2 ^ s) (2 ^ (64 - s)) (powPos s) (powPos _) pr a0 a1 b0 b1 k2 rr
  have HL := Lib.hid (fun w => lz_any d w (by omega) (by omega) (by omega))
  have eL : (64 : Int) - (Lib.bitLen d.toNat : Int) = (s : Int) := by rw [← hn]; omega
  rw [eL] at HL
  have pz : (lo : Int) / 2 ^ (64 - s) < 18446744073709551616 := by
    have := Int.ediv_le_self (2 ^ (64 - s)) b0
    omega
  have hU := orAdd hi (2 ^ s) (lo / 2 ^ (64 - s)) s rfl (by omega) c4 c5 c6 pz
  have eV : IntKind.u64.wrap (lo * 2 ^ s) = lo % 2 ^ (64 - s) * 2 ^ s := by rw [IntKind.wrap_u64]; exact c10
  have eY : IntKind.u64.wrap (d * 2 ^ s) = d * 2 ^ s := by rw [IntKind.wrap_u64]; omega
  have eX : IntKind.u64.wrap (hi * 2 ^ s) = hi * 2 ^ s := by rw [IntKind.wrap_u64]; omega
  have hsc := scaled (hi * 18446744073709551616 + lo) d (2 ^ s) (powPos s) (by omega)
  rw [c11] at hsc
  have pp := powPos s
  have core := div64_core hi lo d w a0 a1 b0 b1 (by omega) d1 s (by omega) (by omega) HL
  obtain ⟨Y, hY⟩ : ∃ Y, Y = d * 2 ^ s := ⟨_, rfl⟩
  obtain ⟨V, hV⟩ : ∃ V, V = lo % 2 ^ (64 - s) * 2 ^ s := ⟨_, rfl⟩
  obtain ⟨U, hUU⟩ : ∃ U, U = hi * 2 ^ s + lo / 2 ^ (64 - s) := ⟨_, rfl⟩
  rw [← hY] at c1 c2 c7 eY hsc
  rw [← hV] at c8 c9 eV hsc
  rw [← hUU] at c7 hU hsc
  have u0 : 0 ≤ U := by omega
  have D1 := Digit.mk' U (V / 4294967296) Y c1 c2 u0 c7 (by omega) (by omega)
  have lo1 := D1.lo
  have hi1 := D1.hi
  obtain ⟨Q1, hQ1⟩ : ∃ Q, Q = (U * 4294967296 + V / 4294967296) / Y := ⟨_, rfl⟩
  rw [← hQ1] at D1 lo1 hi1
  have n1 : (Q1 + 1) * Y = Q1 * Y + Y := by rw [Int.add_mul, Int.one_mul]
  obtain ⟨R1, hR1⟩ : ∃ R, R = U * 4294967296 + V / 4294967296 - Q1 * Y := ⟨_, rfl⟩
  have D0 := Digit.mk' R1 (V % 4294967296) Y c1 c2 (by omega) (by omega) (by omega) (by omega)
  have lo0 := D0.lo
  have hi0 := D0.hi
  obtain ⟨Q0, hQ0⟩ : ∃ Q, Q = (R1 * 4294967296 + V % 4294967296) / Y := ⟨_, rfl⟩
  rw [← hQ0] at D0 lo0 hi0
  have n0 : (Q0 + 1) * Y = Q0 * Y + Y := by rw [Int.add_mul, Int.one_mul]
  obtain ⟨T, hT⟩ : ∃ T, T = R1 * 4294967296 + V % 4294967296 - Q0 * Y := ⟨_, rfl⟩
  have two := twoDigits U (V / 4294967296) (V % 4294967296) Y Q1 R1 Q0 (by omega) hR1 lo0 hi0
  have eN : U * 18446744073709551616 + V / 4294967296 * 4294967296 + V % 4294967296 = U * 18446744073709551616 + V := by omega
  rw [eN, hsc.1, hsc.2, ← hT] at two
  have fin := core Y (hi * 2 ^ s) (lo / 2 ^ (64 - s)) U V (Y / 4294967296) (Y % 4294967296) (V / 4294967296) (V % 4294967296) Q1 R1 Q0 T (by rw [← hY]; exact eY) eX rfl hU eV (and_low32 Y (by omega) (by omega)) rfl rfl (and_low32 V (by omega) (by omega)) D1 D0
    (wrapAll U (V / 4294967296) (Q1 * Y) R1 hR1.symm (by omega) (by omega)) (wrapAll R1 (V % 4294967296) (Q0 * Y) T hT.symm (by omega) (by omega))
  rw [← two.1, ← two.2, Int.mul_ediv_cancel _ (by omega)] at fin
  exact fin

/-- Whatever Times may ask of Div64, it answers. -/
theorem need_all (x y d : Int) (h0 : 0 ≤ x) (h1 : x ≤ 100000000000000) (g0 : 0 ≤ y) (g1 : y ≤ 100000000000000) (d0 : 1 ≤ d) (d1 : d ≤ 100000000000000) : Mn.DivNeed x y d := by
  have k0 : 0 ≤ x * y := Int.mul_nonneg h0 g0
  by_cases h : x * y < 18446744073709551616
  · exact Mn.need_small x y d k0 h d0 d1
  · intro hh
    have e : x * y / 18446744073709551616 * 18446744073709551616 + x * y % 18446744073709551616 = x * y := by omega
    have f := div64_full (x * y / 18446744073709551616) (x * y % 18446744073709551616) d (by omega) hh (by omega) (by omega) d1
    rw [e] at f
    exact f

end Go.Proofs.Ytmnbamfemcgloaa.Dv
