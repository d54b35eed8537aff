/- math/bits.Div64 and package money's Times, for every number that may be asked. · The document's answers of layer 1: the  .. -/
import Derived.Laws.MathBits
import Derived.Test.YtljmddjlnlmenaaGreatPq0
import Derived.Test.YtljmddjlnlmenaaGreatPq3
set_option maxRecDepth 100000
set_option linter.unusedVariables false

section
namespace Go.Proofs.YtljmddjlnlmenaaGreat.Dv
open Go.ChangeShapes Go.WideShapes Go.ChangeAt Go.RowKit
theorem powAdd (a : Nat) : ∀ b : Nat, (2 : Int) ^ a * 2 ^ b = 2 ^ (a + b)
  | 0 => by simp
  | b + 1 => by rw [Int.pow_succ, <- Int.mul_assoc, powAdd a b, <- Int.pow_succ]; rfl
theorem powPos (a : Nat) : (0 : Int) < 2 ^ a := Int.pow_pos (by omega)
theorem powLe (a b : Nat) (h : a <= b) : (2 : Int) ^ a <= 2 ^ b := by
  obtain ⟨c, rfl⟩ := Nat.exists_eq_add_of_le h
  rw [<- powAdd]
  have h1 := powPos a
  have h2 := powPos c
  have h3 : (2 : Int) ^ a * 1 <= 2 ^ a * 2 ^ c := Int.mul_le_mul_of_nonneg_left (by omega) (by omega)
  omega
theorem orAdd (a P Z : Int) (s : Nat) (hP : P = 2 ^ s) (a0 : 0 <= a) (x1 : a * P < 18446744073709551616) (z0 : 0 <= Z) (z1 : Z < P) (x2 : Z < 18446744073709551616) : bits .or .u64 (a * P) Z = a * P + Z := by
  obtain ⟨n, rfl⟩ := Int.eq_ofNat_of_zero_le a0
  obtain ⟨m, rfl⟩ := Int.eq_ofNat_of_zero_le z0
  have e : ((n : Int)) * P = ((n * 2 ^ s : Nat) : Int) := by rw [hP]; simp
  rw [e] at x1 ⊢
  have k : m < 2 ^ s := by rw [hP] at z1; exact_mod_cast z1
  rw [u64_or_nat _ _ (by omega) (by omega), Nat.mul_comm, <- Nat.two_pow_add_eq_or_of_lt k n]
  simp
theorem wrapAll (a k c r : Int) (h : a * 4294967296 + k - c = r) (r0 : 0 <= r) (r1 : r < 18446744073709551616) :
    IntKind.u64.wrap (IntKind.u64.wrap (IntKind.u64.wrap (a * 4294967296) + k) - IntKind.u64.wrap c) = r := by
  simp only [IntKind.wrap_u64]
  omega
theorem div64_full (hi lo d : Int) (a0 : 1 <= hi) (a1 : hi < d) (b0 : 0 <= lo) (b1 : lo <= 18446744073709551615) (d1 : d <= 100000000000000) :
    Mn.DivGives hi lo d ((hi * 18446744073709551616 + lo) / d) ((hi * 18446744073709551616 + lo) % d) := by
  intro w
  obtain ⟨k1, k2, k3, k4⟩ := bits_of d (by omega) (by omega)
  obtain ⟨n, hn⟩ : ∃ n, n = Lib.bitLen d.toNat := ⟨_, rfl⟩
  rw [<- hn] at k1 k2 k3 k4
  have n47 : n <= 47 := by
    by_cases h : n <= 47
    . exact h
    . have := powLe 47 (n - 1) (by omega)
      have e : (2 : Int) ^ 47 = 140737488355328 := by decide
      omega
  obtain ⟨s, hs⟩ : ∃ s, s = 64 - n := ⟨_, rfl⟩
  have en : n = 64 - s := by omega
  have pr : (2 : Int) ^ s * 2 ^ (64 - s) = 18446744073709551616 := by
    rw [powAdd, show s + (64 - s) = 64 by omega]
    decide
  have rr : (2 : Int) ^ (64 - s) <= 2 * d := by
    have : (2 : Int) ^ n = 2 ^ (n - 1) * 2 := by rw [<- Int.pow_succ, show (n - 1).succ = n by omega]
    rw [<- en]
    omega
  rw [en] at k2
  obtain ⟨c1, c2, c3, c4, c5, c6, c7, c8, c9, c10, c11⟩ := prep hi lo d (2 ^ s) (2 ^ (64 - s)) (powPos s) (powPos _) pr a0 a1 b0 b1 k2 rr
  have HL := Lib.hid (fun w => lz_any d w (by omega) (by omega) (by omega))
  have eL : (64 : Int) - (Lib.bitLen d.toNat : Int) = (s : Int) := by rw [<- hn]; omega
  rw [eL] at HL
  have pz : (lo : Int) / 2 ^ (64 - s) < 18446744073709551616 := by
    have := Int.ediv_le_self (2 ^ (64 - s)) b0
    omega
  have hU := orAdd hi (2 ^ s) (lo / 2 ^ (64 - s)) s rfl (by omega) c4 c5 c6 pz
  have eV : IntKind.u64.wrap (lo * 2 ^ s) = lo % 2 ^ (64 - s) * 2 ^ s := by rw [IntKind.wrap_u64]; exact c10
  have eY : IntKind.u64.wrap (d * 2 ^ s) = d * 2 ^ s := by rw [IntKind.wrap_u64]; omega
  have eX : IntKind.u64.wrap (hi * 2 ^ s) = hi * 2 ^ s := by rw [IntKind.wrap_u64]; omega
  have hsc := scaled (hi * 18446744073709551616 + lo) d (2 ^ s) (powPos s) (by omega)
  rw [c11] at hsc
  have pp := powPos s
  have core := div64_core hi lo d w a0 a1 b0 b1 (by omega) d1 s (by omega) (by omega) HL
  obtain ⟨Y, hY⟩ : ∃ Y, Y = d * 2 ^ s := ⟨_, rfl⟩
  obtain ⟨V, hV⟩ : ∃ V, V = lo % 2 ^ (64 - s) * 2 ^ s := ⟨_, rfl⟩
  obtain ⟨U, hUU⟩ : ∃ U, U = hi * 2 ^ s + lo / 2 ^ (64 - s) := ⟨_, rfl⟩
  rw [<- hY] at c1 c2 c7 eY hsc
  rw [<- hV] at c8 c9 eV hsc
  rw [<- hUU] at c7 hU hsc
  have u0 : 0 <= U := by omega
  have D1 := Digit.mk' U (V / 4294967296) Y c1 c2 u0 c7 (by omega) (by omega)
  have lo1 := D1.lo
  have hi1 := D1.hi
  obtain ⟨Q1, hQ1⟩ : ∃ Q, Q = (U * 4294967296 + V / 4294967296) / Y := ⟨_, rfl⟩
  rw [<- hQ1] at D1 lo1 hi1
  have n1 : (Q1 + 1) * Y = Q1 * Y + Y := by rw [Int.add_mul, Int.one_mul]
  obtain ⟨R1, hR1⟩ : ∃ R, R = U * 4294967296 + V / 4294967296 - Q1 * Y := ⟨_, rfl⟩
  have D0 := Digit.mk' R1 (V % 4294967296) Y c1 c2 (by omega) (by omega) (by omega) (by omega)
  have lo0 := D0.lo
  have hi0 := D0.hi
  obtain ⟨Q0, hQ0⟩ : ∃ Q, Q = (R1 * 4294967296 + V % 4294967296) / Y := ⟨_, rfl⟩
  rw [<- hQ0] at D0 lo0 hi0
  have n0 : (Q0 + 1) * Y = Q0 * Y + Y := by rw [Int.add_mul, Int.one_mul]
  obtain ⟨T, hT⟩ : ∃ T, T = R1 * 4294967296 + V % 4294967296 - Q0 * Y := ⟨_, rfl⟩
  have two := twoDigits U (V / 4294967296) (V % 4294967296) Y Q1 R1 Q0 (by omega) hR1 lo0 hi0
  have eN : U * 18446744073709551616 + V / 4294967296 * 4294967296 + V % 4294967296 = U * 18446744073709551616 + V := by omega
  rw [eN, hsc.1, hsc.2, <- hT] at two
  have fin := core Y (hi * 2 ^ s) (lo / 2 ^ (64 - s)) U V (Y / 4294967296) (Y % 4294967296) (V / 4294967296) (V % 4294967296) Q1 R1 Q0 T (by rw [<- hY]; exact eY) eX rfl hU eV (and_low32 Y (by omega) (by omega)) rfl rfl (and_low32 V (by omega) (by omega)) D1 D0
    (wrapAll U (V / 4294967296) (Q1 * Y) R1 hR1.symm (by omega) (by omega)) (wrapAll R1 (V % 4294967296) (Q0 * Y) T hT.symm (by omega) (by omega))
  rw [<- two.1, <- two.2, Int.mul_ediv_cancel _ (by omega)] at fin
  exact fin
theorem need_all (x y d : Int) (h0 : 0 <= x) (h1 : x <= 100000000000000) (g0 : 0 <= y) (g1 : y <= 100000000000000) (d0 : 1 <= d) (d1 : d <= 100000000000000) : Mn.DivNeed x y d := by
  have k0 : 0 <= x * y := Int.mul_nonneg h0 g0
  by_cases h : x * y < 18446744073709551616
  . exact Mn.need_small x y d k0 h d0 d1
  . intro hh
    have e : x * y / 18446744073709551616 * 18446744073709551616 + x * y % 18446744073709551616 = x * y := by omega
    have f := div64_full (x * y / 18446744073709551616) (x * y % 18446744073709551616) d (by omega) hh (by omega) (by omega) d1
    rw [e] at f
    exact f
end Go.Proofs.YtljmddjlnlmenaaGreat.Dv

end

section
namespace Go.Proofs.YtljmddjlnlmenaaGreat.Rf
open Go.ChangeShapes Go.WideShapes Go.ChangeAt Go.RowKit
theorem halve (num : Int) (j : Nat) : num / 2 ^ (j + 1) = num / 2 ^ j / 2 := by
  rw [Int.pow_succ, Int.ediv_ediv_of_nonneg (Int.le_of_lt (Dv.powPos j))]
theorem bitStep (q r d x num : Int) (j : Nat) (E : Hid (q * d + r = x * (num / 2 ^ (j + 1)))) :
    (num / 2 ^ j % 2 = 1 -> (2 * q) * d + 2 * r + x = x * (num / 2 ^ j)) /\ (num / 2 ^ j % 2 = 0 -> (2 * q) * d + 2 * r = x * (num / 2 ^ j)) := by
  have e := E.out
  rw [halve] at e
  generalize num / 2 ^ j = c at *
  have k : 2 * q * d = 2 * (q * d) := Int.mul_assoc 2 q d
  constructor
  . intro h
    have hc : c = 2 * (c / 2) + 1 := by omega
    have : x * c = 2 * (x * (c / 2)) + x := by
      conv => lhs; rw [hc, Int.mul_add, Int.mul_left_comm, Int.mul_one]
    omega
  . intro h
    have hc : c = 2 * (c / 2) := by omega
    have : x * c = 2 * (x * (c / 2)) := by
      conv => lhs; rw [hc, Int.mul_left_comm]
    omega
theorem part (x d : Int) : x / d * d + x % d = x := by rw [Int.mul_comm]; exact Int.mul_ediv_add_emod x d
theorem tooGreat (q r d x num : Int) (j : Nat) (x0 : 0 <= x) (n0 : 0 <= num) (d0 : 1 <= d) (r0 : 0 <= r) (e : q * d + r = x * (num / 2 ^ j)) (h : 100000000000000 < q) : 100000000000000 < x * num / d := by
  have h1 : num / 2 ^ j <= num := Int.ediv_le_self _ n0
  have h2 : x * (num / 2 ^ j) <= x * num := Int.mul_le_mul_of_nonneg_left h1 x0
  have h3 : q <= x * num / d := Int.le_ediv_of_mul_le (by omega) (by omega)
  omega
theorem atStart (num : Int) (n0 : 0 <= num) (n1 : num <= 100000000000000) : num / 2 ^ 63 = 0 := by
  have e : (2 : Int) ^ 63 = 9223372036854775808 := by decide
  rw [e]
  omega
def PartsSaid (x num d : Int) (w : World) (e : Ending) (w' : World) : Prop :=
  Below w.heap.size w w' /\ (x * num / d <= 100000000000000 -> e = .returned (.tuple #[.int .i64 (x * num / d), .int .i64 (x * num % d), .bool true])) /\ (100000000000000 < x * num / d -> e = .returned (.tuple #[.int .i64 0, .int .i64 0, .bool false]))
theorem said_no (q r d x num : Int) (j : Nat) (w w' : World) (x0 : 0 <= x) (n0 : 0 <= num) (d0 : 1 <= d) (r0 : 0 <= r) (e : q * d + r = x * (num / 2 ^ j)) (h : 100000000000000 < q) (hb : Below w.heap.size w w') :
    PartsSaid x num d w (.returned (.tuple #[.int .i64 0, .int .i64 0, .bool false])) w' := by
  have := tooGreat q r d x num j x0 n0 d0 r0 e h
  exact ⟨hb, fun h => by omega, fun _ => rfl⟩
theorem said_yes (q r d x num : Int) (w w' : World) (r0 : 0 <= r) (r1 : r < d) (E : Hid (q * d + r = x * (num / 2 ^ 0))) (h : q <= 100000000000000) (hb : Below w.heap.size w w') :
    PartsSaid x num d w (.returned (.tuple #[.int .i64 q, .int .i64 r, .bool true])) w' := by
  have e := E.out
  rw [Int.pow_zero, Int.ediv_one] at e
  obtain ⟨h1, h2⟩ := Mn.parts_of (x * num) q r d e.symm r0 r1
  refine ⟨hb, fun _ => by rw [h1, h2], fun k => by omega⟩
theorem and1 (m : Int) : bits .and .i64 m 1 = m % 2 := by
  have one : (BitVec.ofInt 64 1).toNat = 2 ^ 1 - 1 := by decide
  have low : (BitVec.ofInt 64 m &&& BitVec.ofInt 64 1).toNat = (m % ((2 ^ 64 : Nat) : Int)).toNat % 2 := by
    rw [BitVec.toNat_and, BitVec.toNat_ofInt, one, Nat.and_two_pow_sub_one_eq_mod]
  show IntKind.i64.wrap (((BitVec.ofInt 64 m &&& BitVec.ofInt 64 1).toNat : Nat) : Int) = m % 2
  rw [low, IntKind.wrap_i64]
  omega
theorem fin1yy (a c d x m : Int) (P : x / d * d + x % d = x) (B : (m % 2 = 1 -> (2 * a) * d + 2 * c + x = x * m) /\ (m % 2 = 0 -> (2 * a) * d + 2 * c = x * m)) (h : m % 2 = 1) : (2 * a + 1 + x / d + 1) * d + (2 * c - d + x % d - d) = x * m := by
  have e := B.1 h
  simp only [Int.add_mul, Int.one_mul] at e ⊢
  omega
theorem fin1yn (a c d x m : Int) (P : x / d * d + x % d = x) (B : (m % 2 = 1 -> (2 * a) * d + 2 * c + x = x * m) /\ (m % 2 = 0 -> (2 * a) * d + 2 * c = x * m)) (h : m % 2 = 1) : (2 * a + 1 + x / d) * d + (2 * c - d + x % d) = x * m := by
  have e := B.1 h
  simp only [Int.add_mul, Int.one_mul] at e ⊢
  omega
theorem fin1ny (a c d x m : Int) (P : x / d * d + x % d = x) (B : (m % 2 = 1 -> (2 * a) * d + 2 * c + x = x * m) /\ (m % 2 = 0 -> (2 * a) * d + 2 * c = x * m)) (h : m % 2 = 1) : (2 * a + x / d + 1) * d + (2 * c + x % d - d) = x * m := by
  have e := B.1 h
  simp only [Int.add_mul, Int.one_mul] at e ⊢
  omega
theorem fin1nn (a c d x m : Int) (P : x / d * d + x % d = x) (B : (m % 2 = 1 -> (2 * a) * d + 2 * c + x = x * m) /\ (m % 2 = 0 -> (2 * a) * d + 2 * c = x * m)) (h : m % 2 = 1) : (2 * a + x / d) * d + (2 * c + x % d) = x * m := by
  have e := B.1 h
  simp only [Int.add_mul] at e ⊢
  omega
theorem fin0y (a c d x m : Int) (P : x / d * d + x % d = x) (B : (m % 2 = 1 -> (2 * a) * d + 2 * c + x = x * m) /\ (m % 2 = 0 -> (2 * a) * d + 2 * c = x * m)) (h : ¬ m % 2 = 1) : (2 * a + 1) * d + (2 * c - d) = x * m := by
  have e := B.2 (by omega)
  simp only [Int.add_mul, Int.one_mul] at e ⊢
  omega
theorem fin0n (a c d x m : Int) (P : x / d * d + x % d = x) (B : (m % 2 = 1 -> (2 * a) * d + 2 * c + x = x * m) /\ (m % 2 = 0 -> (2 * a) * d + 2 * c = x * m)) (h : ¬ m % 2 = 1) : (2 * a) * d + (2 * c) = x * m := by
  have e := B.2 (by omega)
  omega
set_option maxRecDepth 100000 in
set_option maxHeartbeats 4000000 in
theorem parts_any (x num d : Int) (w : World) (x0 : 0 <= x) (x1 : x <= 100000000000000) (n0 : 0 <= num) (n1 : num <= 100000000000000) (d0 : 1 <= d) (d1 : d <= 100000000000000) :
    Calls Tryz.prog 79 #[.int .i64 x, .int .i64 num, .int .i64 d] w (PartsSaid x num d w) := by
  have p0 : 0 <= x / d := Int.ediv_nonneg x0 (by omega)
  have p1 : x / d <= 100000000000000 := by have := Int.ediv_le_self d x0; omega
  have p2 : 0 <= x % d := Int.emod_nonneg _ (by omega)
  have p3 : x % d < d := Int.emod_lt_of_pos _ (by omega)
  have PP := Lib.hid (part x d)
  go_enter Tryz.func79, Tryz.ntmps79
  go_wp2_with fail
  go_loopw [9, 10, 11] (fun q r b wr => ∃ (k : Nat) (a c : Int), q = .int .i64 a /\ r = .int .i64 c /\ b = .int .i64 ((k : Int) - 1) /\ k <= 63 /\ Hid (a * d + c = x * (num / 2 ^ k)) /\ 0 <= c /\ c < d /\ 0 <= a /\ a <= 100000000000000 /\ Below w.heap.size w wr) (fun _ _ b _ => (intOf b + 1).toNat)
  case atStart => exact ⟨63, 0, 0, rfl, rfl, rfl, by omega, Lib.hid (by rw [atStart num n0 n1]; omega), by omega, by omega, by omega, by omega, Below.refl _ _⟩
  case round =>
    obtain ⟨k, a, c, rfl, rfl, rfl, k1, E, c0, c1, a0, a1, hb⟩ := hrel
    by_cases hk : k = 0
    . subst hk
      go_wp2
      go_ret3
      exact said_yes a c d x num w wr c0 c1 E a1 hb
    . obtain ⟨j, rfl⟩ : ∃ j, k = j + 1 := ⟨k - 1, by omega⟩
      have ej : ((j + 1 : Nat) : Int) - 1 = (j : Int) := by omega
      rw [ej]
      clear ej hk
      have B := bitStep a c d x num j E
      obtain ⟨m, hm⟩ : ∃ m, num / 2 ^ j = m := ⟨_, rfl⟩
      rw [hm] at B
      by_cases hbit : m % 2 = 1
      . have hand : (bits .and .i64 m 1 == 1) = true := by rw [and1]; simp; omega
        clear E
        by_cases c1 : d <= 2 * c
        . skip
          by_cases c2 : d <= 2 * c - d + x % d
          . skip
            by_cases c3 : 100000000000000 < 2 * a + 1 + x / d + 1
            . skip
              have V := fin1yy a c d x m PP.out B hbit
              have VH := Lib.hid V; clear V
              go_wp2_with fail
              go_quiet (fail)
              go_wp2
              go_ret3
              exact said_no _ _ d x num j _ _ x0 n0 d0 (by omega) (VH.out.trans (by rw [hm])) c3 (hb.trans (Mn.belowDrewN _ _ _))
            . skip
              have V := fin1yy a c d x m PP.out B hbit
              have VH := Lib.hid V; clear V
              go_wp2_with fail
              go_quiet (fail)
              go_wp2
              go_roundw
              case rel => exact ⟨j, 2 * a + 1 + x / d + 1, 2 * c - d + x % d - d, rfl, rfl, rfl, by omega, Lib.hid (VH.out.trans (by rw [hm])), by omega, by omega, by omega, by omega, (hb.trans (Mn.belowDrewN _ _ _))⟩
              case measure => simp [intOf] <;> omega
          . skip
            by_cases c3 : 100000000000000 < 2 * a + 1 + x / d
            . skip
              have V := fin1yn a c d x m PP.out B hbit
              have VH := Lib.hid V; clear V
              go_wp2_with fail
              go_quiet (fail)
              go_wp2
              go_ret3
              exact said_no _ _ d x num j _ _ x0 n0 d0 (by omega) (VH.out.trans (by rw [hm])) c3 (hb.trans (Mn.belowDrewN _ _ _))
            . skip
              have V := fin1yn a c d x m PP.out B hbit
              have VH := Lib.hid V; clear V
              go_wp2_with fail
              go_quiet (fail)
              go_wp2
              go_roundw
              case rel => exact ⟨j, 2 * a + 1 + x / d, 2 * c - d + x % d, rfl, rfl, rfl, by omega, Lib.hid (VH.out.trans (by rw [hm])), by omega, by omega, by omega, by omega, (hb.trans (Mn.belowDrewN _ _ _))⟩
              case measure => simp [intOf] <;> omega
        . skip
          by_cases c2 : d <= 2 * c + x % d
          . skip
            by_cases c3 : 100000000000000 < 2 * a + x / d + 1
            . skip
              have V := fin1ny a c d x m PP.out B hbit
              have VH := Lib.hid V; clear V
              go_wp2_with fail
              go_quiet (fail)
              go_wp2
              go_ret3
              exact said_no _ _ d x num j _ _ x0 n0 d0 (by omega) (VH.out.trans (by rw [hm])) c3 (hb.trans (Mn.belowDrewN _ _ _))
            . skip
              have V := fin1ny a c d x m PP.out B hbit
              have VH := Lib.hid V; clear V
              go_wp2_with fail
              go_quiet (fail)
              go_wp2
              go_roundw
              case rel => exact ⟨j, 2 * a + x / d + 1, 2 * c + x % d - d, rfl, rfl, rfl, by omega, Lib.hid (VH.out.trans (by rw [hm])), by omega, by omega, by omega, by omega, (hb.trans (Mn.belowDrewN _ _ _))⟩
              case measure => simp [intOf] <;> omega
          . skip
            by_cases c3 : 100000000000000 < 2 * a + x / d
            . skip
              have V := fin1nn a c d x m PP.out B hbit
              have VH := Lib.hid V; clear V
              go_wp2_with fail
              go_quiet (fail)
              go_wp2
              go_ret3
              exact said_no _ _ d x num j _ _ x0 n0 d0 (by omega) (VH.out.trans (by rw [hm])) c3 (hb.trans (Mn.belowDrewN _ _ _))
            . skip
              have V := fin1nn a c d x m PP.out B hbit
              have VH := Lib.hid V; clear V
              go_wp2_with fail
              go_quiet (fail)
              go_wp2
              go_roundw
              case rel => exact ⟨j, 2 * a + x / d, 2 * c + x % d, rfl, rfl, rfl, by omega, Lib.hid (VH.out.trans (by rw [hm])), by omega, by omega, by omega, by omega, (hb.trans (Mn.belowDrewN _ _ _))⟩
              case measure => simp [intOf] <;> omega
      . have hand : (bits .and .i64 m 1 == 1) = false := by rw [and1]; simp; omega
        clear E
        by_cases c1 : d <= 2 * c
        . skip
          by_cases c3 : 100000000000000 < 2 * a + 1
          . skip
            have V := fin0y a c d x m PP.out B hbit
            have VH := Lib.hid V; clear V
            go_wp2
            go_ret3
            exact said_no _ _ d x num j _ _ x0 n0 d0 (by omega) (VH.out.trans (by rw [hm])) c3 hb
          . skip
            have V := fin0y a c d x m PP.out B hbit
            have VH := Lib.hid V; clear V
            go_wp2
            go_roundw
            case rel => exact ⟨j, 2 * a + 1, 2 * c - d, rfl, rfl, rfl, by omega, Lib.hid (VH.out.trans (by rw [hm])), by omega, by omega, by omega, by omega, hb⟩
            case measure => simp [intOf] <;> omega
        . skip
          by_cases c3 : 100000000000000 < 2 * a
          . skip
            have V := fin0n a c d x m PP.out B hbit
            have VH := Lib.hid V; clear V
            go_wp2
            go_ret3
            exact said_no _ _ d x num j _ _ x0 n0 d0 (by omega) (VH.out.trans (by rw [hm])) c3 hb
          . skip
            have V := fin0n a c d x m PP.out B hbit
            have VH := Lib.hid V; clear V
            go_wp2
            go_roundw
            case rel => exact ⟨j, 2 * a, 2 * c, rfl, rfl, rfl, by omega, Lib.hid (VH.out.trans (by rw [hm])), by omega, by omega, by omega, by omega, hb⟩
            case measure => simp [intOf] <;> omega
end Go.Proofs.YtljmddjlnlmenaaGreat.Rf

end

section
namespace Go.Proofs.YtljmddjlnlmenaaGreat.Rf
open Go.ChangeShapes Go.WideShapes Go.ChangeAt Go.RowKit
abbrev Ok (x : Int) : Prop := 0 <= x /\ x <= 100000000000000
def timesR (way x y d : Int) : Int × Int := if Ok x /\ Ok y /\ 1 <= d /\ d <= 100000000000000 /\ 0 <= way /\ way <= 2 then (Mn.timesV way x y d, Mn.timesE way x y d) else (0, 2)
def rateR (way x rate : Int) : Int × Int := if 0 <= rate /\ rate <= 10000 then timesR way x rate 10000 else (0, 2)
def pairOf (p : Int × Int) : Ending := .returned (.tuple #[.int .i64 p.1, .int .i64 p.2])
theorem m_times (way x y d : Int) (w : World) : Calls Tryz.prog 97 #[.int .i64 x, .int .i64 y, .int .i64 d, .int .i64 way] w fun e w' => e = pairOf (timesR way x y d) /\ Below w.heap.size w w' := by
  unfold timesR pairOf Ok
  by_cases h : (0 <= x /\ x <= 100000000000000) /\ (0 <= y /\ y <= 100000000000000) /\ 1 <= d /\ d <= 100000000000000 /\ 0 <= way /\ way <= 2
  . rw [if_pos h]
    obtain ⟨⟨h0, h1⟩, ⟨g0, g1⟩, d0, d1, w0, w1⟩ := h
    exact Mn.times_any way x y d w h0 h1 g0 g1 d0 d1 w0 w1 (Dv.need_all x y d h0 h1 g0 g1 d0 d1)
  . rw [if_neg h]; exact Mn.times_bad way x y d w (by omega)
theorem m_rate (way x rate : Int) (w : World) : Calls Tryz.prog 62 #[.int .i64 x, .int .i64 rate, .int .i64 way] w fun e w' => e = pairOf (rateR way x rate) /\ Below w.heap.size w w' := by
  unfold rateR
  by_cases h : 0 <= rate /\ rate <= 10000
  . rw [if_pos h]
    exact Mn.rate_any x rate way _ _ w h.1 h.2 (Lib.hid fun w => m_times way x rate 10000 w)
  . rw [if_neg h]; exact Mn.rate_bad x rate way w (by omega)
theorem right_yes (x : Int) (w : World) (h0 : 0 <= x) (h1 : x <= 100000000000000) :
    Calls Tryz.prog 78 #[.int .i64 x] w fun e w' => e = .returned (.bool true) /\ w = w' := by
  go_enter Tryz.func78, Tryz.ntmps78
  go_wp2
  go_ret
  exact ⟨rfl, rfl⟩
theorem right_no (x : Int) (w : World) (h : x < 0 \/ 100000000000000 < x) :
    Calls Tryz.prog 78 #[.int .i64 x] w fun e w' => e = .returned (.bool false) /\ w = w' := by
  rcases h with h | h
  . go_enter Tryz.func78, Tryz.ntmps78
    go_wp2
    go_ret
    exact ⟨rfl, rfl⟩
  . have hd : decide (x <= 100000000000000) = false := by simp; omega
    go_enter Tryz.func78, Tryz.ntmps78
    go_wp2
    go_ret
    exact ⟨rfl, rfl⟩
theorem one (x y : Int) : x * y / 1 = x * y /\ x * y % 1 = 0 := ⟨Int.ediv_one _, Int.emod_one _⟩
theorem times_bad (way x y d : Int) (h : ¬ (Ok x /\ Ok y /\ 1 <= d /\ d <= 100000000000000 /\ 0 <= way /\ way <= 2)) : timesR way x y d = (0, 2) := by
  unfold timesR
  rw [if_neg h]
end Go.Proofs.YtljmddjlnlmenaaGreat.Rf

end

section
namespace Go.Proofs.YtljmddjlnlmenaaGreat.Sh
open Qu (Pt ord aheadB)
def sumF (f : Nat -> Int) : Nat -> Int
  | 0 => 0
  | k + 1 => sumF f k + f k
theorem sumF_congr {f g : Nat -> Int} : ∀ n, (∀ k, k < n -> f k = g k) -> sumF f n = sumF g n
  | 0, _ => rfl
  | n + 1, h => by rw [sumF, sumF, sumF_congr n (fun k hk => h k (by omega)), h n (by omega)]
theorem sumF_nonneg {f : Nat -> Int} : ∀ n, (∀ k, k < n -> 0 <= f k) -> 0 <= sumF f n
  | 0, _ => Int.le_refl _
  | n + 1, h => by have := sumF_nonneg n (fun k hk => h k (by omega)); have := h n (by omega); rw [sumF]; omega
theorem sumF_le {f : Nat -> Int} (n m : Nat) (h : n <= m) (h0 : ∀ k, k < m -> 0 <= f k) : sumF f n <= sumF f m := by
  induction m with
  | zero => obtain rfl : n = 0 := by omega
            exact Int.le_refl _
  | succ m ih =>
    by_cases e : n = m + 1
    . subst e; exact Int.le_refl _
    . have := ih (by omega) (fun k hk => h0 k (by omega))
      have := h0 m (by omega)
      rw [sumF]; omega
theorem sumF_elem {f : Nat -> Int} (n k : Nat) (hk : k < n) (h0 : ∀ k, k < n -> 0 <= f k) : f k <= sumF f n := by
  have h1 := sumF_le (f := f) (k + 1) n (by omega) h0
  have h2 := sumF_nonneg (f := f) k (fun j hj => h0 j (by omega))
  rw [sumF] at h1
  omega
theorem sumF_add (f g : Nat -> Int) : ∀ n, sumF (fun k => f k + g k) n = sumF f n + sumF g n
  | 0 => rfl
  | n + 1 => by rw [sumF, sumF, sumF, sumF_add f g n]; omega
theorem sumF_mul (c : Int) (f : Nat -> Int) : ∀ n, sumF (fun k => c * f k) n = c * sumF f n
  | 0 => by simp [sumF]
  | n + 1 => by rw [sumF, sumF, sumF_mul c f n, Int.mul_add]
theorem sumF_const (c : Int) : ∀ n : Nat, sumF (fun _ => c) n = n * c
  | 0 => by simp [sumF]
  | n + 1 => by rw [sumF, sumF_const c n, show ((n + 1 : Nat) : Int) = (n : Int) + 1 by omega, Int.add_mul, Int.one_mul]
theorem sumF_mono {f g : Nat -> Int} : ∀ n, (∀ k, k < n -> f k <= g k) -> sumF f n <= sumF g n
  | 0, _ => Int.le_refl _
  | n + 1, h => by have := sumF_mono n (fun k hk => h k (by omega)); have := h n (by omega); rw [sumF, sumF]; omega
def base (t S : Int) (f : Nat -> Int) (k : Nat) : Int := t * f k / S
def rest (t S : Int) (f : Nat -> Int) (k : Nat) : Int := t * f k % S
def left (t S : Int) (f : Nat -> Int) (n : Nat) : Int := t - sumF (base t S f) n
section
variable {t S : Int} {f : Nat -> Int}
theorem rest_in (hS : 1 <= S) (k : Nat) : 0 <= rest t S f k /\ rest t S f k < S := ⟨Int.emod_nonneg _ (by omega), Int.emod_lt_of_pos _ (by omega)⟩
theorem base_nonneg (hS : 1 <= S) (ht : 0 <= t) (k : Nat) (hf : 0 <= f k) : 0 <= base t S f k := Int.ediv_nonneg (Int.mul_nonneg ht hf) (by omega)
theorem base_le (hS : 1 <= S) (ht : 0 <= t) (k : Nat) (hf : f k <= S) : base t S f k <= t := by
  have h : t * f k <= t * S := Int.mul_le_mul_of_nonneg_left hf ht
  have h2 := Int.ediv_le_ediv (c := S) (by omega) h
  rwa [Int.mul_ediv_cancel _ (by omega)] at h2
theorem rests (n : Nat) (hs : S = sumF f n) : sumF (rest t S f) n = S * left t S f n := by
  have h1 : sumF (fun k => S * base t S f k + rest t S f k) n = t * sumF f n := by
    rw [<- sumF_mul]
    exact sumF_congr n fun k _ => Int.mul_ediv_add_emod _ _
  rw [sumF_add, sumF_mul, <- hs] at h1
  unfold left
  rw [Int.mul_sub]
  have : S * t = t * S := Int.mul_comm _ _
  omega
theorem left_nonneg (n : Nat) (hS : 1 <= S) (hs : S = sumF f n) : 0 <= left t S f n := by
  have h1 := rests (t := t) n hs
  have h2 := sumF_nonneg (f := rest t S f) n (fun k _ => (rest_in hS k).1)
  by_cases h : 0 <= left t S f n
  . exact h
  . have : S * left t S f n < 0 := Int.mul_neg_of_pos_of_neg (by omega) (by omega)
    omega
theorem left_lt (n : Nat) (hS : 1 <= S) (hs : S = sumF f n) : left t S f n < n := by
  have h1 := rests (t := t) n hs
  have hn : 0 < n := by
    rcases Nat.eq_zero_or_pos n with rfl | h
    . rw [hs] at hS; simp [sumF] at hS
    . exact h
  have h2 : sumF (rest t S f) n <= sumF (fun _ => S - 1) n := sumF_mono n fun k _ => by have := (rest_in (t := t) (f := f) hS k).2; omega
  rw [sumF_const] at h2
  by_cases h : left t S f n < n
  . exact h
  . have h3 : S * (n : Int) <= S * left t S f n := Int.mul_le_mul_of_nonneg_left (by omega) (by omega)
    have h4 : (n : Int) * (S - 1) = S * n - n := by rw [Int.mul_sub, Int.mul_comm, Int.mul_one]
    omega
theorem left_le (n : Nat) (hS : 1 <= S) (ht : 0 <= t) (k : Nat) (hk : k <= n) (hf : ∀ k, k < n -> 0 <= f k) : left t S f k <= t := by
  have := sumF_nonneg (f := base t S f) k (fun j hj => base_nonneg hS ht j (hf j (by omega)))
  unfold left; omega
theorem left_mid (n : Nat) (hS : 1 <= S) (hs : S = sumF f n) (ht : 0 <= t) (k : Nat) (hk : k <= n) (hf : ∀ k, k < n -> 0 <= f k) : 0 <= left t S f k := by
  have h1 := left_nonneg (t := t) n hS hs
  have h2 := sumF_le (f := base t S f) k n hk (fun j hj => base_nonneg hS ht j (hf j hj))
  unfold left at *; omega
theorem left_step (k : Nat) : left t S f (k + 1) = left t S f k - base t S f k := by unfold left; rw [sumF]; omega
end
def nth (l : List Int) (k : Nat) : Int := l.getD k 0
def sumL : List Int -> Int
  | [] => 0
  | x :: l => x + sumL l
def one (l : List Int) (p : Pt) : List Int := l.set p.2.toNat (nth l p.2.toNat + 1)
def bump (l : List Int) (ps : List Pt) : List Int := ps.foldl one l
theorem bump_nil (l : List Int) : bump l [] = l := rfl
theorem bump_cons (l : List Int) (p : Pt) (ps : List Pt) : bump l (p :: ps) = bump (one l p) ps := rfl
theorem bump_snoc (l : List Int) (ps : List Pt) (p : Pt) : bump l (ps ++ [p]) = one (bump l ps) p := by simp [bump]
theorem one_length (l : List Int) (p : Pt) : (one l p).length = l.length := by simp [one]
theorem bump_length (l : List Int) : ∀ ps, (bump l ps).length = l.length := by
  intro ps
  induction ps generalizing l with
  | nil => rfl
  | cons p ps ih => rw [bump_cons, ih, one_length]
theorem nth_one (l : List Int) (p : Pt) (i : Nat) (hi : i < l.length) : nth (one l p) i = nth l i + if p.2.toNat = i then 1 else 0 := by
  unfold nth one
  by_cases h : p.2.toNat = i
  . subst h
    rw [if_pos rfl]
    simp [nth, List.getD, hi]
  . rw [if_neg h]
    simp [nth, List.getD, h]
def places (ps : List Pt) : List Nat := ps.map fun p => p.2.toNat
theorem nth_bump (i : Nat) : ∀ (ps : List Pt) (l : List Int), i < l.length -> nth (bump l ps) i = nth l i + (places ps).count i
  | [], l, _ => by simp [bump_nil, places]
  | p :: ps, l, hi => by
    rw [bump_cons, nth_bump i ps (one l p) (by rw [one_length]; exact hi), nth_one l p i hi]
    unfold places
    rw [List.map_cons, List.count_cons]
    by_cases h : p.2.toNat = i
    . subst h
      simp
      omega
    . simp [h]
theorem sumL_set : ∀ (l : List Int) (k : Nat) (x : Int), k < l.length -> sumL (l.set k x) = sumL l - nth l k + x
  | [], k, x, h => by simp at h
  | y :: l, 0, x, _ => by simp [sumL, nth]; omega
  | y :: l, k + 1, x, h => by
    have := sumL_set l k x (by simpa using h)
    rw [List.set_cons_succ, sumL, sumL, this]
    unfold nth
    rw [List.getD_cons_succ]
    omega
theorem sumL_bump : ∀ (ps : List Pt) (l : List Int), (∀ p ∈ ps, p.2.toNat < l.length) -> sumL (bump l ps) = sumL l + ps.length
  | [], l, _ => by simp [bump_nil]
  | p :: ps, l, h => by
    rw [bump_cons, sumL_bump ps (one l p) (fun q hq => by rw [one_length]; exact h q (List.mem_cons_of_mem _ hq))]
    unfold one
    rw [sumL_set _ _ _ (h p List.mem_cons_self), List.length_cons]
    omega
def baseL (t S : Int) (f : Nat -> Int) (n : Nat) : List Int := (List.range n).map (base t S f)
theorem baseL_length (t S : Int) (f : Nat -> Int) (n : Nat) : (baseL t S f n).length = n := by simp [baseL]
theorem nth_baseL (t S : Int) (f : Nat -> Int) (n k : Nat) (hk : k < n) : nth (baseL t S f n) k = base t S f k := by
  unfold nth baseL
  simp [List.getD, hk]
theorem sumL_append : ∀ (l m : List Int), sumL (l ++ m) = sumL l + sumL m
  | [], m => by simp [sumL]
  | x :: l, m => by rw [List.cons_append, sumL, sumL, sumL_append l m]; omega
theorem sumL_range (f : Nat -> Int) : ∀ n, sumL ((List.range n).map f) = sumF f n
  | 0 => rfl
  | n + 1 => by rw [List.range_succ, List.map_append, sumL_append, sumL_range f n]; simp [sumL, sumF]
def chosen (t S : Int) (f : Nat -> Int) (n : Nat) : List Pt := (ord (rest t S f) n).take (left t S f n).toNat
def parts (t S : Int) (f : Nat -> Int) (n : Nat) : List Int := bump (baseL t S f n) (chosen t S f n)
theorem ord_place {g : Nat -> Int} {n : Nat} {p : Pt} (h : p ∈ ord g n) : p.2.toNat < n /\ p = (g p.2.toNat, (p.2.toNat : Int)) := by
  obtain ⟨i, hi, rfl⟩ := Qu.ord_mem g n p h
  simp [hi]
section
variable {t S : Int} {f : Nat -> Int} {n : Nat}
theorem parts_length : (parts t S f n).length = n := by rw [parts, bump_length, baseL_length]
theorem chosen_sub {p : Pt} (h : p ∈ chosen t S f n) : p ∈ ord (rest t S f) n := List.mem_of_mem_take h
theorem chosen_length (hS : 1 <= S) (hs : S = sumF f n) : (chosen t S f n).length = (left t S f n).toNat := by
  have := left_lt (t := t) n hS hs
  have := left_nonneg (t := t) n hS hs
  unfold chosen
  rw [List.length_take, Qu.ord_length]
  omega
theorem parts_sum (hS : 1 <= S) (hs : S = sumF f n) : sumL (parts t S f n) = t := by
  unfold parts
  rw [sumL_bump _ _ (fun p hp => by rw [baseL_length]; exact (ord_place (chosen_sub hp)).1), chosen_length hS hs, baseL, sumL_range]
  have := left_nonneg (t := t) n hS hs
  unfold left at *
  omega
theorem places_ord (g : Nat -> Int) : (places (ord g n)).Perm (List.range n) := by
  have h := (Qu.ord_perm g n).map fun p : Pt => p.2.toNat
  have e : ((List.range n).map fun i => (g i, (i : Int))).map (fun p : Pt => p.2.toNat) = List.range n := by
    rw [List.map_map]
    conv => rhs; rw [<- List.map_id (List.range n)]
    apply List.map_congr_left
    intro i hi
    simp
  rw [e] at h
  exact h
theorem count_le (i : Nat) : (places (chosen t S f n)).count i <= 1 := by
  have h1 : (places (chosen t S f n)).Sublist (places (ord (rest t S f) n)) := (List.take_sublist _ _).map _
  have h2 := h1.count_le i
  have h3 : (places (ord (rest t S f) n)).Nodup := (places_ord _).nodup_iff.2 List.nodup_range
  have h4 := List.nodup_iff_count.1 h3 i
  omega
theorem count_pos {i : Nat} (h : 0 < (places (chosen t S f n)).count i) : (rest t S f i, (i : Int)) ∈ chosen t S f n := by
  have h1 := List.count_pos_iff.1 h
  obtain ⟨p, hp, hi⟩ := List.mem_map.1 h1
  have h2 := (ord_place (chosen_sub hp)).2
  rw [hi] at h2
  rw [<- h2]
  exact hp
theorem nth_parts {i : Nat} (hi : i < n) : nth (parts t S f n) i = base t S f i + (places (chosen t S f n)).count i := by
  unfold parts
  rw [nth_bump i _ _ (by rw [baseL_length]; exact hi), nth_baseL _ _ _ _ _ hi]
def fst (l : List Pt) : List Int := l.map (·.1)
theorem sumL_perm {l m : List Int} (h : l.Perm m) : sumL l = sumL m := by
  induction h with
  | nil => rfl
  | cons x _ ih => rw [sumL, sumL, ih]
  | swap x y l => simp only [sumL]; omega
  | trans _ _ h1 h2 => rw [h1, h2]
theorem fst_ord (g : Nat -> Int) : sumL (fst (ord g n)) = sumF g n := by
  have h := (Qu.ord_perm g n).map fun p : Pt => p.1
  rw [fst, sumL_perm h, List.map_map, <- sumL_range]
  rfl
theorem sumL_le (S : Int) : ∀ l : List Int, (∀ x ∈ l, x <= S) -> sumL l <= l.length * S
  | [], _ => by simp [sumL]
  | x :: l, h => by
    have h1 := sumL_le S l (fun y hy => h y (List.mem_cons_of_mem _ hy))
    have h2 := h x List.mem_cons_self
    rw [sumL, List.length_cons, show ((l.length + 1 : Nat) : Int) = (l.length : Int) + 1 by omega, Int.add_mul, Int.one_mul]
    omega
theorem chosen_pos (hS : 1 <= S) (hs : S = sumF f n) (p : Pt) (hp : p ∈ chosen t S f n) : 0 < p.1 := by
  by_cases h : 0 < p.1
  . exact h
  exfalso
  have hin : ∀ q ∈ ord (rest t S f) n, 0 <= q.1 /\ q.1 <= S := fun q hq => by
    obtain ⟨i, _, rfl⟩ := Qu.ord_mem _ _ _ hq
    have := rest_in (t := t) (f := f) hS i
    simp only
    omega
  have h0 : p.1 = 0 := by have := (hin p (chosen_sub hp)).1; omega
  have hst := Qu.ord_strict (rest t S f) n
  have hsum := fst_ord (n := n) (rest t S f)
  rw [rests n hs] at hsum
  obtain ⟨s, u, hsu⟩ := List.append_of_mem hp
  have hlen := chosen_length (t := t) hS hs
  have hnn := left_nonneg (t := t) n hS hs
  have hall : ord (rest t S f) n = s ++ p :: (u ++ (ord (rest t S f) n).drop (left t S f n).toNat) := by
    conv => lhs; rw [<- List.take_append_drop (left t S f n).toNat (ord (rest t S f) n)]
    show chosen t S f n ++ _ = _
    rw [hsu]; simp
  generalize hv : u ++ (ord (rest t S f) n).drop (left t S f n).toNat = v at hall
  rw [hall, List.pairwise_append, List.pairwise_cons] at hst
  have hv0 : ∀ q ∈ v, q.1 = 0 := fun q hq => by
    have h1 := (Qu.ahead_iff _ _).1 (hst.2.1.1 q hq)
    have h2 := (hin q (by rw [hall]; exact List.mem_append_right _ (List.mem_cons_of_mem _ hq))).1
    omega
  have e1 : fst (ord (rest t S f) n) = fst s ++ p.1 :: fst v := by rw [hall]; simp [fst]
  rw [e1, sumL_append, sumL, h0] at hsum
  have e2 : sumL (fst v) <= (fst v).length * 0 := sumL_le 0 _ (fun x hx => by
    obtain ⟨q, hq, rfl⟩ := List.mem_map.1 hx
    exact Int.le_of_eq (hv0 q hq))
  have e3 := sumL_le S (fst s) (fun x hx => by
    obtain ⟨q, hq, rfl⟩ := List.mem_map.1 hx
    exact (hin q (by rw [hall]; exact List.mem_append_left _ hq)).2)
  have e4 : (fst s).length = s.length := by simp [fst]
  rw [hsu] at hlen
  simp at hlen
  have e5 : (s.length : Int) <= left t S f n - 1 := by omega
  have e6 : (s.length : Int) * S <= (left t S f n - 1) * S := Int.mul_le_mul_of_nonneg_right e5 (by omega)
  rw [Int.sub_mul, Int.one_mul, Int.mul_comm (left t S f n)] at e6
  rw [e4] at e3
  omega
theorem each (hS : 1 <= S) (hs : S = sumF f n) {i : Nat} (hi : i < n) : nth (parts t S f n) i = base t S f i \/ (nth (parts t S f n) i = base t S f i + 1 /\ rest t S f i ≠ 0) := by
  rw [nth_parts hi]
  have h1 := count_le (t := t) (S := S) (f := f) (n := n) i
  rcases Nat.eq_zero_or_pos ((places (chosen t S f n)).count i) with h | h
  . left; omega
  . right
    have := chosen_pos hS hs _ (count_pos h)
    simp only at this
    omega
end
def okB (x : Int) : Bool := decide (0 <= x) && decide (x <= 100000000000000)
theorem okB_iff (x : Int) : okB x = true ↔ 0 <= x /\ x <= 100000000000000 := by unfold okB; rw [Bool.and_eq_true, decide_eq_true_eq, decide_eq_true_eq]
def allOk (f : Nat -> Int) (n : Nat) : Bool := (List.range n).all fun k => okB (f k)
theorem allOk_iff (f : Nat -> Int) (n : Nat) : allOk f n = true ↔ ∀ k, k < n -> 0 <= f k /\ f k <= 100000000000000 := by
  unfold allOk
  rw [List.all_eq_true]
  exact ⟨fun h k hk => (okB_iff _).1 (h k (List.mem_range.2 hk)), fun h k hk => (okB_iff _).2 (h k (List.mem_range.1 hk))⟩
def largR (t : Int) (f : Nat -> Int) (n : Nat) : List Int × Int :=
  if okB t && decide (n <= 100000) && allOk f n then
    if 100000000000000 < sumF f n then ([], 5)
    else if sumF f n = 0 then if 0 < t then ([], 7) else (List.replicate n 0, 0)
    else (parts t (sumF f n) f n, 0)
  else ([], 2)
section
variable {t : Int} {f : Nat -> Int} {n : Nat} (ht : 0 <= t /\ t <= 100000000000000) (hn : n <= 100000) (hf : ∀ k, k < n -> 0 <= f k /\ f k <= 100000000000000)
include ht hn hf
theorem larg_in : largR t f n = if 100000000000000 < sumF f n then ([], 5) else if sumF f n = 0 then if 0 < t then ([], 7) else (List.replicate n 0, 0) else (parts t (sumF f n) f n, 0) := by
  unfold largR
  rw [if_pos]
  rw [Bool.and_eq_true, Bool.and_eq_true, okB_iff, decide_eq_true_eq, allOk_iff]
  exact ⟨⟨ht, hn⟩, hf⟩
theorem larg_none (h : sumF f n = 0) (h2 : 0 < t) : largR t f n = ([], 7) := by rw [larg_in ht hn hf, if_neg (by omega), if_pos h, if_pos h2]
theorem larg_zero (h : sumF f n = 0) (h2 : ¬ 0 < t) : largR t f n = (List.replicate n 0, 0) := by rw [larg_in ht hn hf, if_neg (by omega), if_pos h, if_neg h2]
theorem larg_parts (h : sumF f n ≠ 0) (h2 : sumF f n <= 100000000000000) : largR t f n = (parts t (sumF f n) f n, 0) := by rw [larg_in ht hn hf, if_neg (by omega), if_neg h]
end
end Go.Proofs.YtljmddjlnlmenaaGreat.Sh

end
