/- Contracts of package money's small functions, and of the drawing numbers of the statements' helpers. -/
import Derived.Test.YtmnbamfemcgloaaRows
import Derived.Test.YtmnbamfemcgloaaKit
import Derived.WalkKit
import Derived.ProofKit
import Derived.OpenShut
import Derived.Lib.Hide
import Derived.BigQuiet
import Derived.Deep.QuietTactic
import Derived.Lib.Mul64
import Derived.Laws.Bits64b
namespace Go.Proofs.Ytmnbamfemcgloaa.Mn
open Go.ChangeShapes Go.WideShapes Go.ChangeAt Go.RowKit

theorem right_yes (x : Int) (w : World) (h0 : 0 ≤ x) (h1 : x ≤ 100000000000000) :
    Calls Try.prog 24 #[.int .i64 x] w fun e w' => e = .returned (.bool true) ∧ w = w' := by
  go_enter Try.func24, Try.ntmps24
  go_wp2
  go_ret
  exact ⟨rfl, rfl⟩

theorem right_no (x : Int) (w : World) (h : x < 0 ∨ 100000000000000 < x) :
    Calls Try.prog 24 #[.int .i64 x] w fun e w' => e = .returned (.bool false) ∧ w = w' := by
  rcases h with h | h
  · go_enter Try.func24, Try.ntmps24
    go_wp2
    go_ret
    exact ⟨rfl, rfl⟩
  · have hd : decide (x ≤ 100000000000000) = false := by simp; omega
    go_enter Try.func24, Try.ntmps24
    go_wp2
    go_ret
    exact ⟨rfl, rfl⟩

theorem ranged_yes (x : Int) (w : World) (h0 : 0 ≤ x) (h1 : x ≤ 100000000000000) :
    Calls Try.prog 45 #[.int .i64 x] w fun e w' => e = .returned (.tuple #[.int .i64 x, .int .i64 0]) ∧ w = w' := by
  go_enter Try.func45, Try.ntmps45
  go_wp2_with (go_at_call 24; refine (right_yes _ _ h0 h1).mono ?_; rintro e w' ⟨rfl, rfl⟩)
  go_ret2
  exact ⟨rfl, rfl⟩

theorem ranged_no (x : Int) (w : World) (h : x < 0 ∨ 100000000000000 < x) :
    Calls Try.prog 45 #[.int .i64 x] w fun e w' => e = .returned (.tuple #[.int .i64 0, .int .i64 5]) ∧ w = w' := by
  go_enter Try.func45, Try.ntmps45
  go_wp2_with (go_at_call 24; refine (right_no _ _ h).mono ?_; rintro e w' ⟨rfl, rfl⟩)
  go_ret2
  exact ⟨rfl, rfl⟩

theorem tmod_in (a n : Int) (h0 : 0 ≤ a) (hn : 1 ≤ n) (hn1 : n ≤ 9223372036854775807) : 0 ≤ wrap64 (a.tmod n) ∧ wrap64 (a.tmod n) < n := by
  have h1 : a.tmod n = a % n := Int.tmod_eq_emod_of_nonneg h0
  have h2 := Int.emod_nonneg a (show n ≠ 0 by omega)
  have h3 := Int.emod_lt_of_pos a (show 0 < n by omega)
  rw [h1, IntWalk.wrap64_in _ ⟨by omega, by omega⟩]
  exact ⟨h2, h3⟩

theorem u64_nonneg (v : Int) : 0 ≤ IntKind.u64.wrap v := by
  rw [IntKind.wrap_u64]
  omega

def InRange (n : Int) (w : World) (e : Ending) (w' : World) : Prop := (∃ r : Int, 0 ≤ r ∧ r < n ∧ e = .returned (.int .i64 r)) ∧ w = w'

theorem mod64_any (v n : Int) (w : World) (hn : 1 ≤ n) (hn1 : n ≤ 9223372036854775807) :
    Calls Try.prog 20 #[.int .i64 v, .int .i64 n] w (InRange n w) := by
  have ht := tmod_in (IntKind.u64.wrap v) n (u64_nonneg v) hn hn1
  go_enter Try.func20, Try.ntmps20
  go_wp2
  go_ret
  exact ⟨⟨_, ht.1, ht.2, rfl⟩, rfl⟩

theorem mod_any (v n : Int) (w : World) (hn : 1 ≤ n) (hn1 : n ≤ 9223372036854775807) :
    Calls Try.prog 23 #[.int .i64 v, .int .i64 n] w (InRange n w) := by
  have ht := tmod_in (IntKind.u64.wrap v) n (u64_nonneg v) hn hn1
  go_enter Try.func23, Try.ntmps23
  go_wp2
  go_ret
  exact ⟨⟨_, ht.1, ht.2, rfl⟩, rfl⟩

/-- What package money's three ways make of a whole part q and of r left of d. -/
def rnd (way q r d : Int) : Int := if way = 0 then q else if way = 2 ∧ 2 * r = d then q + q % 2 else if d ≤ 2 * r then q + 1 else q

theorem down_any (q r d : Int) (w : World) :
    Calls Try.prog 41 #[.agg #[.int .i64 q, .int .i64 r, .int .i64 d]] w fun e w' => e = .returned (.int .i64 (rnd 0 q r d)) ∧ Below w.heap.size w w' := by
  have hr : q = rnd 0 q r d := by simp [rnd]
  have HR := Lib.hid hr; clear hr
  go_enter Try.func41, Try.ntmps41
  go_wp2
  go_ret
  exact ⟨congrArg (fun q => Ending.returned (.int .i64 q)) HR.out, (Below.refl _ _).alloc (Nat.le_refl _) _⟩

theorem halfUp_any (q r d : Int) (w : World) (h0 : 0 ≤ r) (h1 : r ≤ 100000000000000) (hq0 : 0 ≤ q) (hq : q ≤ 100000000000000) :
    Calls Try.prog 42 #[.agg #[.int .i64 q, .int .i64 r, .int .i64 d]] w fun e w' => e = .returned (.int .i64 (rnd 1 q r d)) ∧ Below w.heap.size w w' := by
  by_cases h : d ≤ 2 * r
  · have hr : q + 1 = rnd 1 q r d := by simp [rnd, h]
    have HR := Lib.hid hr; clear hr
    go_enter Try.func42, Try.ntmps42
    go_wp2
    go_ret
    exact ⟨congrArg (fun q => Ending.returned (.int .i64 q)) HR.out, (Below.refl _ _).alloc (Nat.le_refl _) _⟩
  · have hr : q = rnd 1 q r d := by simp [rnd, h]
    have HR := Lib.hid hr; clear hr
    go_enter Try.func42, Try.ntmps42
    go_wp2
    go_ret
    exact ⟨congrArg (fun q => Ending.returned (.int .i64 q)) HR.out, (Below.refl _ _).alloc (Nat.le_refl _) _⟩

theorem halfEven_any (q r d : Int) (w : World) (h0 : 0 ≤ r) (h1 : r ≤ 100000000000000) (hq0 : 0 ≤ q) (hq : q ≤ 100000000000000) :
    Calls Try.prog 43 #[.agg #[.int .i64 q, .int .i64 r, .int .i64 d]] w fun e w' => e = .returned (.int .i64 (rnd 2 q r d)) ∧ Below w.heap.size w w' := by
  by_cases h : 2 * r = d
  · have hr : q + q % 2 = rnd 2 q r d := by simp [rnd, h]
    have HR := Lib.hid hr; clear hr
    have hb : (2 * r == d) = true := by simp [h]
    clear h
    go_enter Try.func43, Try.ntmps43
    go_wp2
    go_ret
    exact ⟨congrArg (fun q => Ending.returned (.int .i64 q)) HR.out, (Below.refl _ _).alloc (Nat.le_refl _) _⟩
  · have hr : rnd 1 q r d = rnd 2 q r d := by simp [rnd, h]
    have HR := Lib.hid hr; clear hr
    have hb : (2 * r == d) = false := by simp [h]
    clear h
    go_enter Try.func43, Try.ntmps43
    go_wp2_with (go_at_call 42; refine (halfUp_any _ _ _ _ h0 h1 hq0 hq).mono ?_; rintro e w' ⟨rfl, hb1⟩)
    go_ret
    exact ⟨congrArg (fun q => Ending.returned (.int .i64 q)) HR.out, ((Below.refl _ _).alloc (Nat.le_refl _) _).trans (hb1.mono (by simp))⟩

/-! Natural numbers under the walk's operations on uint64. -/
theorem and32 (a : Nat) (ha : a < 18446744073709551616) : bits .and .u64 (a : Int) 4294967295 = ((a % 4294967296 : Nat) : Int) :=
  (bits_and_u64_nat a 4294967295 ha (by omega)).trans (congrArg Nat.cast (Nat.and_two_pow_sub_one_eq_mod a 32))
theorem castDiv (a : Nat) : (a : Int) / 4294967296 = ((a / 4294967296 : Nat) : Int) := by omega
theorem castMul (a b : Nat) : (a : Int) * (b : Int) = ((a * b : Nat) : Int) := (Int.natCast_mul a b).symm
theorem castAdd (a b : Nat) : (a : Int) + (b : Int) = ((a + b : Nat) : Int) := (Int.natCast_add a b).symm
theorem fits (a : Nat) (ha : a < 18446744073709551616) : IntKind.u64.wrap (a : Int) = (a : Int) := by rw [IntKind.wrap_u64]; omega
theorem goesRound (a : Nat) : IntKind.u64.wrap (a : Int) = ((a % 18446744073709551616 : Nat) : Int) := by rw [IntKind.wrap_u64]; omega

set_option maxHeartbeats 1000000 in
theorem mul64_nat (x y : Nat) (hx : x < 18446744073709551616) (hy : y < 18446744073709551616) (w : World) :
    Calls Try.prog 46 #[.int .u64 x, .int .u64 y] w fun e w' => e = .returned (.tuple #[.int .u64 ((x * y / 18446744073709551616 : Nat) : Int), .int .u64 ((x * y % 18446744073709551616 : Nat) : Int)]) ∧ w = w' := by
  obtain ⟨k0, kt, kw, kh⟩ := Lib.mul64_hi x y hx hy
  have m11 := Lib.half_mul_le (a := x / 4294967296) (b := y / 4294967296) (by omega) (by omega)
  have m10 := Lib.half_mul_le (a := x / 4294967296) (b := y % 4294967296) (by omega) (by omega)
  have m01 := Lib.half_mul_le (a := x % 4294967296) (b := y / 4294967296) (by omega) (by omega)
  have f11 := fits (x / 4294967296 * (y / 4294967296)) (by omega)
  have f10 := fits (x / 4294967296 * (y % 4294967296)) (by omega)
  have f01 := fits (x % 4294967296 * (y / 4294967296)) (by omega)
  have f1 := fits (x / 4294967296 * (y / 4294967296) + (x / 4294967296 * (y % 4294967296) + x % 4294967296 * (y % 4294967296) / 4294967296) / 4294967296) (by omega)
  have f2 := fits (x / 4294967296 * (y / 4294967296) + (x / 4294967296 * (y % 4294967296) + x % 4294967296 * (y % 4294967296) / 4294967296) / 4294967296 + ((x / 4294967296 * (y % 4294967296) + x % 4294967296 * (y % 4294967296) / 4294967296) % 4294967296 + x % 4294967296 * (y / 4294967296)) / 4294967296) (by omega)
  have F := Lib.hid (And.intro f11 (And.intro f10 (And.intro f01 (And.intro f1 f2)))); clear f11 f10 f01 f1 f2
  have KH := Lib.hid kh; clear kh
  go_enter Try.func46, Try.ntmps46
  go_wp2
  obtain ⟨f11, f10, f01, f1, f2⟩ := F.out
  simp only [and32 x hx, and32 y hy, castDiv, castMul, castAdd, fits _ k0, f10, fits _ kt, and32 _ kt, f01, fits _ kw, f11, f1, f2, goesRound (x * y)]
  rw [KH.out]
  go_ret2
  exact ⟨rfl, rfl⟩

theorem belowDrewN (B : Nat) (w : World) (n : Nat) : Below B w (w.drewN n) := ⟨rfl, rfl, rfl, Nat.le_refl _, fun _ _ => rfl⟩

/-- What Div64 is to answer: quotient and remainder of high times 2^64 and low by y. -/
def DivSaid (hi lo y : Int) : Prop := ∀ w : World, Calls Try.prog 47 #[.int .u64 hi, .int .u64 lo, .int .u64 y] w fun e w' => e = .returned (.tuple #[.int .u64 ((hi * 18446744073709551616 + lo) / y), .int .u64 ((hi * 18446744073709551616 + lo) % y)]) ∧ Below w.heap.size w w'

theorem div64_zero (x y : Int) (h0 : 0 ≤ x) (h1 : x < 18446744073709551616) (g0 : 1 ≤ y) (g1 : y ≤ 100000000000000) : DivSaid 0 x y := by
  intro w
  have hb : (y == 0) = false := by simp; omega
  have e : (0 : Int) * 18446744073709551616 + x = x := by omega
  rw [e]
  clear e
  go_enter Try.func47, Try.ntmps47
  go_wp2
  go_quiet (fail)
  go_wp2
  go_ret2
  exact ⟨rfl, belowDrewN _ _ _⟩

end Go.Proofs.Ytmnbamfemcgloaa.Mn
