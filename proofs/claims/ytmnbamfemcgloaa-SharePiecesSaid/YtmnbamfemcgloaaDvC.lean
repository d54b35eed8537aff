/- math/bits.Div64: the contract where the high word is not 0. -/
import Derived.Test.YtmnbamfemcgloaaDvB
set_option linter.unusedVariables false
namespace Go.Proofs.Ytmnbamfemcgloaa.Dv
open Go.ChangeShapes Go.WideShapes Go.ChangeAt Go.RowKit

theorem next (a b h U : Int) (E : Hid (a * h + b = U)) : Hid ((a - 1) * h + (b + h) = U) := by
  have e := E.out
  have k : (a - 1) * h = a * h - h := by rw [Int.sub_mul, Int.one_mul]
  exact Lib.hid (by omega)

set_option maxHeartbeats 4000000 in
set_option maxRecDepth 100000 in
theorem div64_core (hi lo y : Int) (w : World) (a0 : 1 ≤ hi) (a1 : hi < y) (b0 : 0 ≤ lo) (b1 : lo ≤ 18446744073709551615) (y0 : 1 ≤ y) (y1 : y ≤ 100000000000000)
    (s : Nat) (s0 : 1 ≤ s) (s1 : s ≤ 63) (HL : Hid (∀ w, Calls Try.prog 51 #[.int .u64 y] w fun e w' => e = .returned (.int .i64 s) ∧ w = w'))
    (Y X Z U V h l d1 d0 Q1 R1 Q0 T : Int) (hY : IntKind.u64.wrap (y * 2 ^ s) = Y) (hX : IntKind.u64.wrap (hi * 2 ^ s) = X) (hZ : lo / 2 ^ (64 - s) = Z)
    (hU : bits .or .u64 X Z = U) (hV : IntKind.u64.wrap (lo * 2 ^ s) = V) (hl : bits .and .u64 Y 4294967295 = l) (hh : Y / 4294967296 = h)
    (hd1 : V / 4294967296 = d1) (hd0 : bits .and .u64 V 4294967295 = d0)
    (D1 : Digit U d1 h l Y Q1) (D0 : Digit R1 d0 h l Y Q0)
    (hR1 : IntKind.u64.wrap (IntKind.u64.wrap (IntKind.u64.wrap (U * 4294967296) + d1) - IntKind.u64.wrap (Q1 * Y)) = R1)
    (hT : IntKind.u64.wrap (IntKind.u64.wrap (IntKind.u64.wrap (R1 * 4294967296) + d0) - IntKind.u64.wrap (Q0 * Y)) = T) :
    Calls Try.prog 47 #[.int .u64 hi, .int .u64 lo, .int .u64 y] w fun e w' => e = .returned (.tuple #[.int .u64 (Q1 * 4294967296 + Q0), .int .u64 (T / 2 ^ s)]) ∧ Below w.heap.size w w' := by
  have hb : (y == 0) = false := by simp; omega
  have hb2 : (hi == 0) = false := by simp; omega
  have h0 := D1.h0
  have h1 := D1.h1
  have l0 := D1.l0
  have l1 := D1.l1
  have e10 := D1.d0
  have e11 := D1.d1
  have e00 := D0.d0
  have e01 := D0.d1
  have u0 := D1.u0
  have u2 : U < 18446744073709551616 := by have := D1.u1; have := D1.ey; omega
  have r0 := D0.u0
  have r2 : R1 < 18446744073709551616 := by have := D0.u1; have := D0.ey; omega
  have q10 := D1.q0
  have q11 := D1.small
  have q00 := D0.q0
  have q01 := D0.small
  have S1 := D1.start
  have S0 := D0.start
  have t1 : 0 ≤ U / h * h := Int.mul_nonneg S1.2.2.2.2.1 (by omega)
  have t2 : 0 ≤ R1 / h * h := Int.mul_nonneg S0.2.2.2.2.1 (by omega)
  have SS1 := Lib.hid S1
  have SS0 := Lib.hid S0
  have S11 := S1.2
  have S01 := S0.2
  have v1 : U / h * h ≤ U := by omega
  have v0 : R1 / h * h ≤ R1 := by omega
  clear S1 S0
  go_enter Try.func47, Try.ntmps47
  go_wp2_with fail
  refine (HL.out _).mono ?_
  rintro e w' ⟨rfl, rfl⟩
  go_upto_block 0 with fail
  go_cut [15, 16] (fun q r wx => q = .int .u64 Q1 ∧ w = wx)
  case first =>
    go_wp2_with fail
    go_loop [15, 16] (fun q r => ∃ a b : Int, q = .int .u64 a ∧ r = .int .u64 b ∧ Hid (a * h + b = U) ∧ 0 ≤ b ∧ b < 4294967296 ∧ Q1 ≤ a ∧ a ≤ 4294967297) (fun q _ => (intOf q).toNat)
    case atStart => exact ⟨_, _, rfl, rfl, Lib.hid SS1.out.1, by omega, by omega, by omega, by omega⟩
    case round =>
      obtain ⟨a, b, rfl, rfl, E, b0, b1, aQ, a1⟩ := hrel
      have En := next a b h _ E
      by_cases c1 : 4294967296 ≤ a
      · have am := D1.more E.out (Or.inl c1)
        by_cases c3 : b + h < 4294967296
        · go_wp2
          go_round
          case rel => exact ⟨a - 1, b + h, rfl, rfl, En, by omega, by omega, by omega, by omega⟩
          case measure => simp [intOf]; omega
        · have st := D1.stop (q := a - 1) En.out (by omega) (by omega) (by omega)
          have fin : a - 1 = Q1 := by omega
          have Fin := Lib.hid fin; clear fin
          go_wp2_with fail
          go_meet
          exact ⟨congrArg (Value.int .u64) Fin.out, rfl⟩
      · have p0 : 0 ≤ a * l := Int.mul_nonneg (by omega) l0
        have p1 : a * l ≤ 4294967296 * 4294967296 := Int.mul_le_mul (by omega) (by omega) l0 (by omega)
        have p2 : a * l ≤ 4294967295 * 4294967295 := Int.mul_le_mul (by omega) (by omega) l0 (by omega)
        by_cases c2 : 4294967296 * b + d1 < a * l
        · have am := D1.more E.out (Or.inr c2)
          by_cases c3 : b + h < 4294967296
          · go_wp2
            go_round
            case rel => exact ⟨a - 1, b + h, rfl, rfl, En, by omega, by omega, by omega, by omega⟩
            case measure => simp [intOf]; omega
          · have st := D1.stop (q := a - 1) En.out (by omega) (by omega) (by omega)
            have fin : a - 1 = Q1 := by omega
            have Fin := Lib.hid fin; clear fin
            go_wp2_with fail
            go_meet
            exact ⟨congrArg (Value.int .u64) Fin.out, rfl⟩
        · have st := D1.less E.out (by omega)
          have fin : a = Q1 := by omega
          have Fin := Lib.hid fin; clear fin
          go_wp2_with fail
          go_meet
          exact ⟨congrArg (Value.int .u64) Fin.out, rfl⟩
  case rest =>
    obtain ⟨rfl, rfl⟩ := hcut
    go_upto_block 2 with fail
    go_cut [18, 16] (fun q r wx => q = .int .u64 Q0 ∧ w = wx)
    case first =>
      go_wp2_with fail
      go_loop [18, 16] (fun q r => ∃ a b : Int, q = .int .u64 a ∧ r = .int .u64 b ∧ Hid (a * h + b = R1) ∧ 0 ≤ b ∧ b < 4294967296 ∧ Q0 ≤ a ∧ a ≤ 4294967297) (fun q _ => (intOf q).toNat)
      case atStart => exact ⟨_, _, rfl, rfl, Lib.hid SS0.out.1, by omega, by omega, by omega, by omega⟩
      case round =>
        obtain ⟨a, b, rfl, rfl, E, b0, b1, aQ, a1⟩ := hrel
        have En := next a b h _ E
        by_cases c1 : 4294967296 ≤ a
        · have am := D0.more E.out (Or.inl c1)
          by_cases c3 : b + h < 4294967296
          · go_wp2
            go_round
            case rel => exact ⟨a - 1, b + h, rfl, rfl, En, by omega, by omega, by omega, by omega⟩
            case measure => simp [intOf]; omega
          · have st := D0.stop (q := a - 1) En.out (by omega) (by omega) (by omega)
            have fin : a - 1 = Q0 := by omega
            have Fin := Lib.hid fin; clear fin
            go_wp2_with fail
            go_meet
            exact ⟨congrArg (Value.int .u64) Fin.out, rfl⟩
        · have p0 : 0 ≤ a * l := Int.mul_nonneg (by omega) l0
          have p1 : a * l ≤ 4294967296 * 4294967296 := Int.mul_le_mul (by omega) (by omega) l0 (by omega)
          have p2 : a * l ≤ 4294967295 * 4294967295 := Int.mul_le_mul (by omega) (by omega) l0 (by omega)
          by_cases c2 : 4294967296 * b + d0 < a * l
          · have am := D0.more E.out (Or.inr c2)
            by_cases c3 : b + h < 4294967296
            · go_wp2
              go_round
              case rel => exact ⟨a - 1, b + h, rfl, rfl, En, by omega, by omega, by omega, by omega⟩
              case measure => simp [intOf]; omega
            · have st := D0.stop (q := a - 1) En.out (by omega) (by omega) (by omega)
              have fin : a - 1 = Q0 := by omega
              have Fin := Lib.hid fin; clear fin
              go_wp2_with fail
              go_meet
              exact ⟨congrArg (Value.int .u64) Fin.out, rfl⟩
          · have st := D0.less E.out (by omega)
            have fin : a = Q0 := by omega
            have Fin := Lib.hid fin; clear fin
            go_wp2_with fail
            go_meet
            exact ⟨congrArg (Value.int .u64) Fin.out, rfl⟩
    case rest =>
      obtain ⟨rfl, rfl⟩ := hcut
      go_wp2
      go_ret2
      exact ⟨rfl, Below.refl _ _⟩

end Go.Proofs.Ytmnbamfemcgloaa.Dv
