/- Bits of small numbers, as the model has them. -/
import Derived.Laws.BitsAllLaws
import Derived.Laws.Shifts
import Derived.RowKit3
import Derived.Lib.Hide
import Derived.IntWalk
set_option linter.unusedVariables false
namespace Go.Proofs.Ytbicdmhmpmdoeaa.By
open Go.RowKit

theorem or128_nat : ∀ a : Nat, a < 256 → a ||| 128 = a % 128 + 128 := by decide +kernel

theorem or128 (y : Nat) : bits .or .u8 ((y : Int) % 256) 128 = (y : Int) % 128 + 128 := by
  have h := u8_or_nat (y % 256) 128 (by omega) (by omega)
  have e : ((y % 256 : Nat) : Int) = (y : Int) % 256 := by omega
  rw [e] at h
  have e2 : ((128 : Nat) : Int) = 128 := rfl
  rw [e2] at h
  rw [h, or128_nat (y % 256) (by omega)]
  omega

theorem andNot128_nat : ∀ a : Nat, a < 256 → a &&& (255 - 128) = a % 128 := by decide +kernel

theorem andNot128 (x : Int) (h0 : 0 ≤ x) (h1 : x ≤ 255) : bits .andNot .u8 x 128 = x % 128 := by
  have h := u8_andNot x 128 h0 (by omega) (by omega) (by omega)
  have e2 : (128 : Int).toNat = 128 := rfl
  rw [e2, andNot128_nat x.toNat (by omega)] at h
  rw [h]
  omega

/-- Of an int64 that is not negative, and one that has its bits above all of it. -/
theorem or64_nat (a b : Nat) (ha : a < 9223372036854775808) (hb : b < 9223372036854775808) : bits .or .i64 (a : Int) (b : Int) = ((a ||| b : Nat) : Int) := by
  show IntKind.i64.wrap ((BitVec.ofInt 64 (a : Int) ||| BitVec.ofInt 64 (b : Int)).toNat : Int) = _
  have e : ∀ c : Nat, c < 9223372036854775808 → (BitVec.ofInt 64 (c : Int)).toNat = c := fun c hc => by
    rw [BitVec.toNat_ofInt]
    omega
  rw [BitVec.toNat_or, e a ha, e b hb]
  have h : a ||| b < 2 ^ 63 := Nat.or_lt_two_pow (by simpa using ha) (by simpa using hb)
  simp [IntKind.wrap, IntKind.bits, IntKind.signed]
  omega

/-- What nine groups of seven bits say, one by one. -/
theorem join7 (a b i : Nat) (hi : i ≤ 8) (ha : a < 128 ^ i) (hb : b < 128) : bits .or .i64 (a : Int) ((b : Int) * 2 ^ (7 * i)) = ((a + 128 ^ i * b : Nat) : Int) ∧ (b : Int) * 2 ^ (7 * i) < 9223372036854775808 ∧ a + 128 ^ i * b < 128 ^ (i + 1) := by
  have e128 : (128 : Nat) ^ i = 2 ^ (7 * i) := by rw [show (128 : Nat) = 2 ^ 7 from rfl, ← Nat.pow_mul]
  have hp : (128 : Nat) ^ i ≤ 128 ^ 8 := Nat.pow_le_pow_right (by omega) hi
  have hle : b * 2 ^ (7 * i) < 9223372036854775808 := by
    rw [← e128]
    calc b * 128 ^ i ≤ 127 * 128 ^ 8 := Nat.mul_le_mul (by omega) hp
      _ < _ := by decide
  have hc : (b : Int) * 2 ^ (7 * i) = ((b * 2 ^ (7 * i) : Nat) : Int) := by simp
  have hlt : a + 128 ^ i * b < 128 ^ (i + 1) := by
    rw [Nat.pow_succ]
    calc a + 128 ^ i * b < 128 ^ i + 128 ^ i * b := by omega
      _ = 128 ^ i * (b + 1) := by rw [Nat.mul_add]; omega
      _ ≤ 128 ^ i * 128 := Nat.mul_le_mul_left _ (by omega)
  refine ⟨?_, ?_, hlt⟩
  · rw [hc, or64_nat a _ (by have : (128 : Nat) ^ 8 < 9223372036854775808 := by decide
                             omega) hle]
    congr 1
    rw [Nat.or_comm, Nat.mul_comm b, ← Nat.two_pow_add_eq_or_of_lt (by rw [← e128]; exact ha), e128]
    omega
  · rw [hc]; omega

/-- An int of any number, modulo a small one, as the code has it. -/
theorem umod_in (a n : Int) (hn : 1 ≤ n) (hn1 : n ≤ 9223372036854775807) : ∃ t : Nat, wrap64 ((IntKind.u64.wrap a).tmod n) = (t : Int) ∧ (t : Int) < n ∧ (IntKind.u64.wrap a) % n = (t : Int) ∧ IntKind.u64.wrap ((IntKind.u64.wrap a).tmod n) = (t : Int) := by
  have h0 : 0 ≤ IntKind.u64.wrap a := by rw [IntKind.wrap_u64]; omega
  have h1 : (IntKind.u64.wrap a).tmod n = (IntKind.u64.wrap a) % n := Int.tmod_eq_emod_of_nonneg h0
  have h2 := Int.emod_nonneg (IntKind.u64.wrap a) (show n ≠ 0 by omega)
  have h3 := Int.emod_lt_of_pos (IntKind.u64.wrap a) (show 0 < n by omega)
  refine ⟨((IntKind.u64.wrap a) % n).toNat, ?_, ?_, ?_, ?_⟩
  · rw [h1, IntWalk.wrap64_in _ ⟨by omega, by omega⟩]; omega
  · omega
  · omega
  · rw [h1, IntKind.wrap_u64]; omega

end Go.Proofs.Ytbicdmhmpmdoeaa.By
