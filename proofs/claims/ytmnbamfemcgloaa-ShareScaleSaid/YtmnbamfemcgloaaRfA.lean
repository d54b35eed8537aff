/- The document's answers of layer 1: the reference's functions. -/
import Derived.Test.YtmnbamfemcgloaaDvD
import Derived.Test.YtmnbamfemcgloaaMnC
set_option linter.unusedVariables false
namespace Go.Proofs.Ytmnbamfemcgloaa.Rf
open Go.ChangeShapes Go.WideShapes Go.ChangeAt Go.RowKit

theorem halve (num : Int) (j : Nat) : num / 2 ^ (j + 1) = num / 2 ^ j / 2 := by
  rw [Int.pow_succ, Int.ediv_ediv_of_nonneg (Int.le_of_lt (Dv.powPos j))]

/-- One bit more. -/
theorem bitStep (q r d x num : Int) (j : Nat) (E : Hid (q * d + r = x * (num / 2 ^ (j + 1)))) :
    (num / 2 ^ j % 2 = 1 → (2 * q) * d + 2 * r + x = x * (num / 2 ^ j)) ∧ (num / 2 ^ j % 2 = 0 → (2 * q) * d + 2 * r = x * (num / 2 ^ j)) := by
  have e := E.out
  rw [halve] at e
  generalize num / 2 ^ j = c at *
  have k : 2 * q * d = 2 * (q * d) := Int.mul_assoc 2 q d
  constructor
  · intro h
    have hc : c = 2 * (c / 2) + 1 := by omega
    have : x * c = 2 * (x * (c / 2)) + x := by
      conv => lhs; rw [hc, Int.mul_add, Int.mul_left_comm, Int.mul_one]
    omega
  · intro h
    have hc : c = 2 * (c / 2) := by omega
    have : x * c = 2 * (x * (c / 2)) := by
      conv => lhs; rw [hc, Int.mul_left_comm]
    omega

theorem part (x d : Int) : x / d * d + x % d = x := by rw [Int.mul_comm]; exact Int.mul_ediv_add_emod x d
theorem add1 (q d : Int) : (q + 1) * d = q * d + d := by rw [Int.add_mul, Int.one_mul]

theorem tooGreat (q r d x num : Int) (j : Nat) (x0 : 0 ≤ x) (n0 : 0 ≤ num) (d0 : 1 ≤ d) (r0 : 0 ≤ r) (e : q * d + r = x * (num / 2 ^ j)) (h : 100000000000000 < q) : 100000000000000 < x * num / d := by
  have h1 : num / 2 ^ j ≤ num := Int.ediv_le_self _ n0
  have h2 : x * (num / 2 ^ j) ≤ x * num := Int.mul_le_mul_of_nonneg_left h1 x0
  have h3 : q ≤ x * num / d := Int.le_ediv_of_mul_le (by omega) (by omega)
  omega

theorem atStart (num : Int) (n0 : 0 ≤ num) (n1 : num ≤ 100000000000000) : num / 2 ^ 63 = 0 := by
  have e : (2 : Int) ^ 63 = 9223372036854775808 := by decide
  rw [e]
  omega

/-- What parts answers. -/
def PartsSaid (x num d : Int) (w : World) (e : Ending) (w' : World) : Prop :=
  Below w.heap.size w w' ∧ (x * num / d ≤ 100000000000000 → e = .returned (.tuple #[.int .i64 (x * num / d), .int .i64 (x * num % d), .bool true])) ∧ (100000000000000 < x * num / d → e = .returned (.tuple #[.int .i64 0, .int .i64 0, .bool false]))

theorem said_no (q r d x num : Int) (j : Nat) (w w' : World) (x0 : 0 ≤ x) (n0 : 0 ≤ num) (d0 : 1 ≤ d) (r0 : 0 ≤ r) (e : q * d + r = x * (num / 2 ^ j)) (h : 100000000000000 < q) (hb : Below w.heap.size w w') :
    PartsSaid x num d w (.returned (.tuple #[.int .i64 0, .int .i64 0, .bool false])) w' := by
  have := tooGreat q r d x num j x0 n0 d0 r0 e h
  exact ⟨hb, fun h => by omega, fun _ => rfl⟩

theorem said_yes (q r d x num : Int) (w w' : World) (r0 : 0 ≤ r) (r1 : r < d) (E : Hid (q * d + r = x * (num / 2 ^ 0))) (h : q ≤ 100000000000000) (hb : Below w.heap.size w w') :
    PartsSaid x num d w (.returned (.tuple #[.int .i64 q, .int .i64 r, .bool true])) w' := by
  have e := E.out
  rw [Int.pow_zero, Int.ediv_one] at e
  obtain ⟨h1, h2⟩ := Mn.parts_of (x * num) q r d e.symm r0 r1
  refine ⟨hb, fun _ => by rw [h1, h2], fun k => by omega⟩

theorem and1 (m : Int) : bits .and .i64 m 1 = m % 2 := by
  have one : (BitVec.ofInt 64 1).toNat = 2 ^ 1 - 1 := by decide
  have low : (BitVec.ofInt 64 m &&& BitVec.ofInt 64 1).toNat = (m % ((2 ^ 64 : Nat) : Int)).toNat % 2 := by
    rw [BitVec.toNat_and, BitVec.toNat_ofInt, one, Nat.and_two_pow_sub_one_eq_mod]
  show IntKind.i64.wrap (((BitVec.ofInt 64 m &&& BitVec.ofInt 64 1).toNat : Nat) : Int) = m % 2
  rw [low, IntKind.wrap_i64]
  omega

theorem fin1yy (a c d x m : Int) (P : x / d * d + x % d = x) (B : (m % 2 = 1 → (2 * a) * d + 2 * c + x = x * m) ∧ (m % 2 = 0 → (2 * a) * d + 2 * c = x * m)) (h : m % 2 = 1) : (2 * a + 1 + x / d + 1) * d + (2 * c - d + x % d - d) = x * m := by
  have e := B.1 h
  simp only [Int.add_mul, Int.one_mul] at e ⊢
  omega

theorem fin1yn (a c d x m : Int) (P : x / d * d + x % d = x) (B : (m % 2 = 1 → (2 * a) * d + 2 * c + x = x * m) ∧ (m % 2 = 0 → (2 * a) * d + 2 * c = x * m)) (h : m % 2 = 1) : (2 * a + 1 + x / d) * d + (2 * c - d + x % d) = x * m := by
  have e := B.1 h
  simp only [Int.add_mul, Int.one_mul] at e ⊢
  omega

theorem fin1ny (a c d x m : Int) (P : x / d * d + x % d = x) (B : (m % 2 = 1 → (2 * a) * d + 2 * c + x = x * m) ∧ (m % 2 = 0 → (2 * a) * d + 2 * c = x * m)) (h : m % 2 = 1) : (2 * a + x / d + 1) * d + (2 * c + x % d - d) = x * m := by
  have e := B.1 h
  simp only [Int.add_mul, Int.one_mul] at e ⊢
  omega

theorem fin1nn (a c d x m : Int) (P : x / d * d + x % d = x) (B : (m % 2 = 1 → (2 * a) * d + 2 * c + x = x * m) ∧ (m % 2 = 0 → (2 * a) * d + 2 * c = x * m)) (h : m % 2 = 1) : (2 * a + x / d) * d + (2 * c + x % d) = x * m := by
  have e := B.1 h
  simp only [Int.add_mul] at e ⊢
  omega

theorem fin0y (a c d x m : Int) (P : x / d * d + x % d = x) (B : (m % 2 = 1 → (2 * a) * d + 2 * c + x = x * m) ∧ (m % 2 = 0 → (2 * a) * d + 2 * c = x * m)) (h : ¬ m % 2 = 1) : (2 * a + 1) * d + (2 * c - d) = x * m := by
  have e := B.2 (by omega)
  simp only [Int.add_mul, Int.one_mul] at e ⊢
  omega

theorem fin0n (a c d x m : Int) (P : x / d * d + x % d = x) (B : (m % 2 = 1 → (2 * a) * d + 2 * c + x = x * m) ∧ (m % 2 = 0 → (2 * a) * d + 2 * c = x * m)) (h : ¬ m % 2 = 1) : (2 * a) * d + (2 * c) = x * m := by
  have e := B.2 (by omega)
  omega

set_option maxRecDepth 100000 in
set_option maxHeartbeats 4000000 in
theorem parts_any (x num d : Int) (w : World) (x0 : 0 ≤ x) (x1 : x ≤ 100000000000000) (n0 : 0 ≤ num) (n1 : num ≤ 100000000000000) (d0 : 1 ≤ d) (d1 : d ≤ 100000000000000) :
    Calls Try.prog 29 #[.int .i64 x, .int .i64 num, .int .i64 d] w (PartsSaid x num d w) := by
  have p0 : 0 ≤ x / d := Int.ediv_nonneg x0 (by omega)
  have p1 : x / d ≤ 100000000000000 := by have := Int.ediv_le_self d x0; omega
  have p2 : 0 ≤ x % d := Int.emod_nonneg _ (by omega)
  have p3 : x % d < d := Int.emod_lt_of_pos _ (by omega)
  have PP := Lib.hid (part x d)
  go_enter Try.func29, Try.ntmps29
  go_wp2_with fail
  go_loopw [9, 10, 11] (fun q r b wr => ∃ (k : Nat) (a c : Int), q = .int .i64 a ∧ r = .int .i64 c ∧ b = .int .i64 ((k : Int) - 1) ∧ k ≤ 63 ∧ Hid (a * d + c = x * (num / 2 ^ k)) ∧ 0 ≤ c ∧ c < d ∧ 0 ≤ a ∧ a ≤ 100000000000000 ∧ Below w.heap.size w wr) (fun _ _ b _ => (intOf b + 1).toNat)
  case atStart => exact ⟨63, 0, 0, rfl, rfl, rfl, by omega, Lib.hid (by rw [atStart num n0 n1]; omega), by omega, by omega, by omega, by omega, Below.refl _ _⟩
  case round =>
    obtain ⟨k, a, c, rfl, rfl, rfl, k1, E, c0, c1, a0, a1, hb⟩ := hrel
    by_cases hk : k = 0
    · subst hk
      go_wp2
      go_ret3
      exact said_yes a c d x num w wr c0 c1 E a1 hb
    · obtain ⟨j, rfl⟩ : ∃ j, k = j + 1 := ⟨k - 1, by omega⟩
      have ej : ((j + 1 : Nat) : Int) - 1 = (j : Int) := by omega
      rw [ej]
      clear ej hk
      have B := bitStep a c d x num j E
      obtain ⟨m, hm⟩ : ∃ m, num / 2 ^ j = m := ⟨_, rfl⟩
      rw [hm] at B
      by_cases hbit : m % 2 = 1
      · have hand : (bits .and .i64 m 1 == 1) = true := by rw [and1]; simp; omega
        clear E
        by_cases c1 : d ≤ 2 * c
        · skip
          by_cases c2 : d ≤ 2 * c - d + x % d
          · skip
            by_cases c3 : 100000000000000 < 2 * a + 1 + x / d + 1
            · skip
              have V := fin1yy a c d x m PP.out B hbit
              have VH := Lib.hid V; clear V
              go_wp2_with fail
              go_quiet (fail)
              go_wp2
              go_ret3
              exact said_no _ _ d x num j _ _ x0 n0 d0 (by omega) (VH.out.trans (by rw [hm])) c3 (hb.trans (Mn.belowDrewN _ _ _))
            · skip
              have V := fin1yy a c d x m PP.out B hbit
              have VH := Lib.hid V; clear V
              go_wp2_with fail
              go_quiet (fail)
              go_wp2
              go_roundw
              case rel => exact ⟨j, 2 * a + 1 + x / d + 1, 2 * c - d + x % d - d, rfl, rfl, rfl, by omega, Lib.hid (VH.out.trans (by rw [hm])), by omega, by omega, by omega, by omega, (hb.trans (Mn.belowDrewN _ _ _))⟩
              case measure => simp [intOf] <;> omega
          · skip
            by_cases c3 : 100000000000000 < 2 * a + 1 + x / d
            · skip
              have V := fin1yn a c d x m PP.out B hbit
              have VH := Lib.hid V; clear V
              go_wp2_with fail
              go_quiet (fail)
              go_wp2
              go_ret3
              exact said_no _ _ d x num j _ _ x0 n0 d0 (by omega) (VH.out.trans (by rw [hm])) c3 (hb.trans (Mn.belowDrewN _ _ _))
            · skip
              have V := fin1yn a c d x m PP.out B hbit
              have VH := Lib.hid V; clear V
              go_wp2_with fail
              go_quiet (fail)
              go_wp2
              go_roundw
              case rel => exact ⟨j, 2 * a + 1 + x / d, 2 * c - d + x % d, rfl, rfl, rfl, by omega, Lib.hid (VH.out.trans (by rw [hm])), by omega, by omega, by omega, by omega, (hb.trans (Mn.belowDrewN _ _ _))⟩
              case measure => simp [intOf] <;> omega
        · skip
          by_cases c2 : d ≤ 2 * c + x % d
          · skip
            by_cases c3 : 100000000000000 < 2 * a + x / d + 1
            · skip
              have V := fin1ny a c d x m PP.out B hbit
              have VH := Lib.hid V; clear V
              go_wp2_with fail
              go_quiet (fail)
              go_wp2
              go_ret3
              exact said_no _ _ d x num j _ _ x0 n0 d0 (by omega) (VH.out.trans (by rw [hm])) c3 (hb.trans (Mn.belowDrewN _ _ _))
            · skip
              have V := fin1ny a c d x m PP.out B hbit
              have VH := Lib.hid V; clear V
              go_wp2_with fail
              go_quiet (fail)
              go_wp2
              go_roundw
              case rel => exact ⟨j, 2 * a + x / d + 1, 2 * c + x % d - d, rfl, rfl, rfl, by omega, Lib.hid (VH.out.trans (by rw [hm])), by omega, by omega, by omega, by omega, (hb.trans (Mn.belowDrewN _ _ _))⟩
              case measure => simp [intOf] <;> omega
          · skip
            by_cases c3 : 100000000000000 < 2 * a + x / d
            · skip
              have V := fin1nn a c d x m PP.out B hbit
              have VH := Lib.hid V; clear V
              go_wp2_with fail
              go_quiet (fail)
              go_wp2
              go_ret3
              exact said_no _ _ d x num j _ _ x0 n0 d0 (by omega) (VH.out.trans (by rw [hm])) c3 (hb.trans (Mn.belowDrewN _ _ _))
            · skip
              have V := fin1nn a c d x m PP.out B hbit
              have VH := Lib.hid V; clear V
              go_wp2_with fail
              go_quiet (fail)
              go_wp2
              go_roundw
              case rel => exact ⟨j, 2 * a + x / d, 2 * c + x % d, rfl, rfl, rfl, by omega, Lib.hid (VH.out.trans (by rw [hm])), by omega, by omega, by omega, by omega, (hb.trans (Mn.belowDrewN _ _ _))⟩
              case measure => simp [intOf] <;> omega
      · have hand : (bits .and .i64 m 1 == 1) = false := by rw [and1]; simp; omega
        clear E
        by_cases c1 : d ≤ 2 * c
        · skip
          by_cases c3 : 100000000000000 < 2 * a + 1
          · skip
            have V := fin0y a c d x m PP.out B hbit
            have VH := Lib.hid V; clear V
            go_wp2
            go_ret3
            exact said_no _ _ d x num j _ _ x0 n0 d0 (by omega) (VH.out.trans (by rw [hm])) c3 hb
          · skip
            have V := fin0y a c d x m PP.out B hbit
            have VH := Lib.hid V; clear V
            go_wp2
            go_roundw
            case rel => exact ⟨j, 2 * a + 1, 2 * c - d, rfl, rfl, rfl, by omega, Lib.hid (VH.out.trans (by rw [hm])), by omega, by omega, by omega, by omega, hb⟩
            case measure => simp [intOf] <;> omega
        · skip
          by_cases c3 : 100000000000000 < 2 * a
          · skip
            have V := fin0n a c d x m PP.out B hbit
            have VH := Lib.hid V; clear V
            go_wp2
            go_ret3
            exact said_no _ _ d x num j _ _ x0 n0 d0 (by omega) (VH.out.trans (by rw [hm])) c3 hb
          · skip
            have V := fin0n a c d x m PP.out B hbit
            have VH := Lib.hid V; clear V
            go_wp2
            go_roundw
            case rel => exact ⟨j, 2 * a, 2 * c, rfl, rfl, rfl, by omega, Lib.hid (VH.out.trans (by rw [hm])), by omega, by omega, by omega, by omega, hb⟩
            case measure => simp [intOf] <;> omega

end Go.Proofs.Ytmnbamfemcgloaa.Rf
