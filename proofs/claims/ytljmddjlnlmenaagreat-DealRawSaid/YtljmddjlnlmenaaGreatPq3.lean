/- Plain numbers under math/bits.Div64: one digit of a long division. Nothing here speaks of the program. · math/bits.Len64 .. -/
import Derived.Deep.CutBlock
import Derived.Deep.DeepCutAuto
import Derived.Lib.BitFns
import Derived.Lib.Slices
import Derived.Lib.Small
import Derived.Lib.Strings
import Derived.Lib.Walk
import Derived.Test.YtljmddjlnlmenaaGreatPq2
set_option maxRecDepth 100000
set_option linter.unusedVariables false

section
namespace Go.Proofs.YtljmddjlnlmenaaGreat.Dv
structure Digit (U d h l y Q : Int) : Prop where
  ey : y = h * 4294967296 + l
  h0 : 2147483648 <= h
  h1 : h < 4294967296
  l0 : 0 <= l
  l1 : l < 4294967296
  u0 : 0 <= U
  u1 : U < y
  d0 : 0 <= d
  d1 : d < 4294967296
  q0 : 0 <= Q
  lo : Q * y <= U * 4294967296 + d
  hi : U * 4294967296 + d < (Q + 1) * y
theorem Digit.mk' (U d y : Int) (y0 : 9223372036854775808 <= y) (y1 : y < 18446744073709551616) (u0 : 0 <= U) (u1 : U < y) (d0 : 0 <= d) (d1 : d < 4294967296) :
    Digit U d (y / 4294967296) (y % 4294967296) y ((U * 4294967296 + d) / y) :=
  ⟨by omega, by omega, by omega, by omega, by omega, u0, u1, d0, d1, Int.ediv_nonneg (by omega) (by omega), Int.ediv_mul_le _ (by omega), Int.lt_ediv_add_one_mul_self _ (by omega)⟩
variable {U d h l y Q q r : Int}
theorem Digit.small (D : Digit U d h l y Q) : Q < 4294967296 := by
  obtain ⟨ey, h0, h1, l0, l1, u0, u1, d0, d1, q0, lo, hi⟩ := D
  have a : U * 4294967296 + d < 4294967296 * y := by omega
  have b : Q * y < 4294967296 * y := by omega
  exact Int.lt_of_mul_lt_mul_right b (by omega)
theorem split (q h l y : Int) (ey : y = h * 4294967296 + l) : q * y = q * h * 4294967296 + q * l := by
  rw [ey, Int.mul_add, Int.mul_assoc]
theorem Digit.more (D : Digit U d h l y Q) (e : q * h + r = U) (t : 4294967296 <= q \/ 4294967296 * r + d < q * l) : Q + 1 <= q := by
  have s := D.small
  rcases t with t | t
  . omega
  . have lo := D.lo
    have e2 := split q h l y D.ey
    generalize q * h = a at *
    generalize q * l = b at *
    have k : Q * y < q * y := by omega
    have := Int.lt_of_mul_lt_mul_right k (by have := D.u0; have := D.u1; omega)
    omega
theorem Digit.less (D : Digit U d h l y Q) (e : q * h + r = U) (t : q * l <= 4294967296 * r + d) : q <= Q := by
  have hi := D.hi
  have e2 := split q h l y D.ey
  generalize q * h = a at *
  generalize q * l = b at *
  have k : q * y < (Q + 1) * y := by omega
  have := Int.lt_of_mul_lt_mul_right k (by have := D.u0; have := D.u1; omega)
  omega
theorem Digit.stop (D : Digit U d h l y Q) (e : q * h + r = U) (r0 : 4294967296 <= r) (q0 : 0 <= q) (q1 : q <= 4294967296) : q <= Q := by
  refine D.less e ?_
  have k : q * l <= 4294967296 * 4294967295 := Int.mul_le_mul q1 (by have := D.l1; omega) D.l0 (by omega)
  have := D.d0
  omega
theorem Digit.start (D : Digit U d h l y Q) : U / h * h + (U - U / h * h) = U /\ 0 <= U - U / h * h /\ U - U / h * h < h /\ Q <= U / h /\ 0 <= U / h /\ U / h <= 4294967297 := by
  have hp : 0 < h := by have := D.h0; omega
  have m := Int.mul_ediv_add_emod U h
  have m0 := Int.emod_nonneg U (show h ≠ 0 by omega)
  have m1 := Int.emod_lt_of_pos U hp
  rw [Int.mul_comm] at m
  refine ⟨by omega, by omega, by omega, ?_, Int.ediv_nonneg D.u0 (by omega), ?_⟩
  . refine Int.le_ediv_of_mul_le hp ?_
    have e2 := split Q h l y D.ey
    have k : 0 <= Q * l := Int.mul_nonneg D.q0 D.l0
    have := D.lo
    have := D.d1
    generalize Q * h = a at *
    generalize Q * l = b at *
    omega
  . have k : U / h * h <= U := Int.ediv_mul_le _ (by omega)
    have u1 := D.u1
    have ey := D.ey
    have l1 := D.l1
    have h0 := D.h0
    have k2 : U / h * h < 4294967298 * h := by omega
    have := Int.lt_of_mul_lt_mul_right k2 (by omega)
    omega
theorem twoDigits (U d1 d0 y Q1 R1 Q0 : Int) (y0 : 0 < y) (e1 : R1 = U * 4294967296 + d1 - Q1 * y) (b0 : Q0 * y <= R1 * 4294967296 + d0) (b1 : R1 * 4294967296 + d0 < (Q0 + 1) * y) :
    (U * 18446744073709551616 + d1 * 4294967296 + d0) / y = Q1 * 4294967296 + Q0 /\ (U * 18446744073709551616 + d1 * 4294967296 + d0) % y = R1 * 4294967296 + d0 - Q0 * y := by
  have k : U * 18446744073709551616 + d1 * 4294967296 + d0 = (R1 * 4294967296 + d0 - Q0 * y) + (Q1 * 4294967296 + Q0) * y := by
    rw [e1, Int.add_mul, Int.mul_right_comm Q1 4294967296 y]
    omega
  have k2 : (Q0 + 1) * y = Q0 * y + y := by rw [Int.add_mul, Int.one_mul]
  rw [k, Int.add_mul_ediv_right _ _ (by omega), Int.add_mul_emod_self_right, Int.ediv_eq_zero_of_lt (by omega) (by omega), Int.emod_eq_of_lt (by omega) (by omega)]
  exact ⟨by omega, rfl⟩
theorem scaled (N y p : Int) (hp : 0 < p) (hy : 0 < y) : N * p / (y * p) = N / y /\ N * p % (y * p) = N % y * p := by
  refine ⟨Int.mul_ediv_mul_of_pos_left N y hp, ?_⟩
  have a := Int.mul_ediv_mul_of_pos_left N y hp
  have b := Int.mul_ediv_add_emod (N * p) (y * p)
  have c := Int.mul_ediv_add_emod N y
  rw [a] at b
  have e : N * p = y * p * (N / y) + N % y * p := by
    rw [Int.mul_right_comm, <- Int.add_mul, c]
  omega
theorem prep (hi lo y P R : Int) (hP : 0 < P) (hR : 0 < R) (e : P * R = 18446744073709551616) (a0 : 1 <= hi) (a1 : hi < y) (b0 : 0 <= lo) (b1 : lo <= 18446744073709551615) (yR : y < R) (yR2 : R <= 2 * y) :
    9223372036854775808 <= y * P /\ y * P < 18446744073709551616 /\ 0 <= hi * P /\ hi * P < 18446744073709551616 /\ 0 <= lo / R /\ lo / R < P /\ hi * P + lo / R < y * P /\
    0 <= lo % R * P /\ lo % R * P < 18446744073709551616 /\ lo * P % 18446744073709551616 = lo % R * P /\ (hi * 18446744073709551616 + lo) * P = (hi * P + lo / R) * 18446744073709551616 + lo % R * P := by
  have z0 : 0 <= lo / R := Int.ediv_nonneg b0 (by omega)
  have z1 : lo / R < P := Int.ediv_lt_of_lt_mul hR (by omega)
  have m := Int.mul_ediv_add_emod lo R
  have m0 := Int.emod_nonneg lo (show R ≠ 0 by omega)
  have m1 := Int.emod_lt_of_pos lo hR
  have y1 : y * P < R * P := Int.mul_lt_mul_of_pos_right yR hP
  have y2 : R * P <= 2 * y * P := Int.mul_le_mul_of_nonneg_right yR2 (by omega)
  have y3 : 2 * y * P = 2 * (y * P) := Int.mul_assoc 2 y P
  have x0 : 0 <= hi * P := Int.mul_nonneg (by omega) (by omega)
  have x1 : (hi + 1) * P <= y * P := Int.mul_le_mul_of_nonneg_right (by omega) (by omega)
  have x2 : (hi + 1) * P = hi * P + P := by rw [Int.add_mul, Int.one_mul]
  have v0 : 0 <= lo % R * P := Int.mul_nonneg m0 (by omega)
  have v1 : lo % R * P < R * P := Int.mul_lt_mul_of_pos_right m1 hP
  have e2 : R * P = 18446744073709551616 := by rw [Int.mul_comm]; exact e
  have k : lo * P = lo / R * 18446744073709551616 + lo % R * P := by
    conv => lhs; rw [<- m]
    rw [Int.add_mul, Int.mul_comm R, Int.mul_assoc, e2]
  have k2 : (hi * 18446744073709551616 + lo) * P = hi * P * 18446744073709551616 + lo * P := by
    rw [Int.add_mul, Int.mul_right_comm]
  refine ⟨by omega, by omega, x0, by omega, z0, z1, by omega, v0, by omega, ?_, ?_⟩
  . rw [k, Int.add_comm, Int.add_mul_emod_self_right]
    exact Int.emod_eq_of_lt v0 (by omega)
  . rw [k2, k, Int.add_mul]
    omega
end Go.Proofs.YtljmddjlnlmenaaGreat.Dv

end

section
namespace Go.Proofs.YtljmddjlnlmenaaGreat.Dv
open Go.ChangeShapes Go.WideShapes Go.ChangeAt Go.RowKit
def Bits (x : Int) (n : Nat) : Prop := (2 : Int) ^ (n - 1) <= x /\ x < 2 ^ n /\ 1 <= n /\ n <= 64
theorem bits_lib : ∀ (f x : Nat), 0 < x -> x < 2 ^ f -> 2 ^ (Lib.bitLenAux f x - 1) <= x /\ x < 2 ^ Lib.bitLenAux f x /\ 1 <= Lib.bitLenAux f x /\ Lib.bitLenAux f x <= f
  | 0, x, h0, h1 => by simp at h1; omega
  | f + 1, x, h0, h1 => by
    unfold Lib.bitLenAux
    rw [if_neg (by omega)]
    by_cases h : x / 2 = 0
    . rw [h]
      have e : Lib.bitLenAux f 0 = 0 := by cases f <;> simp [Lib.bitLenAux]
      rw [e]
      have : x = 1 := by omega
      subst this
      exact ⟨by decide, by decide, by omega, by omega⟩
    . obtain ⟨a, b, c, d⟩ := bits_lib f (x / 2) (by omega) (by rw [Nat.pow_succ] at h1; omega)
      obtain ⟨n, hn⟩ : ∃ n, Lib.bitLenAux f (x / 2) = n + 1 := ⟨Lib.bitLenAux f (x / 2) - 1, by omega⟩
      rw [hn] at a b c d ⊢
      have e1 : 2 ^ (1 + (n + 1)) = 2 * 2 ^ (n + 1) := by rw [Nat.add_comm, Nat.pow_succ, Nat.mul_comm]
      have e2 : 1 + (n + 1) - 1 = n + 1 := by omega
      have e3 : 2 ^ (n + 1) = 2 * 2 ^ n := by rw [Nat.pow_succ, Nat.mul_comm]
      rw [e1, e2, e3]
      simp only [Nat.add_sub_cancel] at a
      rw [e3] at b
      exact ⟨by omega, by omega, by omega, by omega⟩
theorem bits_of (x : Int) (h0 : 1 <= x) (h1 : x < 18446744073709551616) : Bits x (Lib.bitLen x.toNat) := by
  obtain ⟨n, rfl⟩ := Int.eq_ofNat_of_zero_le (show 0 <= x by omega)
  obtain ⟨a, b, c, d⟩ := bits_lib 64 n (by omega) (by omega)
  have e : ((n : Int)).toNat = n := Int.toNat_natCast n
  rw [e]
  unfold Lib.bitLen Bits
  refine ⟨?_, ?_, c, d⟩
  . exact_mod_cast a
  . exact_mod_cast b
theorem tabSize : Lib.len8tab.size = 256 := by decide +kernel
theorem tabAll : ∀ n : Fin 256, (Lib.len8tab[n.val]'(by rw [tabSize]; exact n.isLt)).toNat = Lib.bitLen n.val := by decide +kernel
theorem tab (i : Int) (h : i.toNat < Lib.len8tab.size) (h1 : i <= 255) : ((Lib.len8tab[i.toNat]'h).toNat : Int) = Lib.bitLen i.toNat := by
  have := tabAll ⟨i.toNat, by omega⟩
  exact congrArg Nat.cast this
theorem len8 (i : Int) (h0 : 0 <= i) (h1 : i <= 255) : Lib.bitLen i.toNat <= 8 := Lib.bitLen_le8' i h0 h1
theorem wrapTab (i : Int) (h : i.toNat < Lib.len8tab.size) (h0 : 0 <= i) (h1 : i <= 255) (k : Int) (k0 : 0 <= k) (k1 : k <= 100) :
    wrap64 (k + wrap64 ((Lib.len8tab[i.toNat]'h).toNat : Int)) = k + Lib.bitLen i.toNat := by
  rw [tab i h h1]
  have := len8 i h0 h1
  rw [IntWalk.wrap64_in (Lib.bitLen i.toNat) ⟨by omega, by omega⟩, IntWalk.wrap64_in _ ⟨by omega, by omega⟩]
theorem wrapTab0 (i : Int) (h : i.toNat < Lib.len8tab.size) (h0 : 0 <= i) (h1 : i <= 255) :
    wrap64 (wrap64 ((Lib.len8tab[i.toNat]'h).toNat : Int)) = Lib.bitLen i.toNat := by
  have := wrapTab i h h0 h1 0 (by omega) (by omega)
  simpa using this
set_option maxHeartbeats 4000000 in
set_option maxRecDepth 100000 in
theorem len64_any (x : Int) (w : World) (h0 : 0 <= x) (h1 : x <= 18446744073709551615) :
    Calls Tryz.prog 126 #[.int .u64 x] w fun e w' => e = .returned (.int .i64 (Lib.bitLen x.toNat)) /\ w = w' := by
  have hz : Lib.len8tab.size = 256 := tabSize
  go_enter Tryz.func126, Tryz.ntmps126
  go_wp2
  all_goals (go_ret; refine ⟨congrArg Ending.returned (congrArg (Value.int IntKind.i64) ?_), rfl⟩)
  all_goals first
    | (rw [wrapTab (x / 4294967296 / 65536 / 256) (by omega) (by omega) (by omega) 56 (by omega) (by omega)]
       have e : (x / 4294967296 / 65536 / 256).toNat = x.toNat / 72057594037927936 := by omega
       have s := Lib.bitLen_shift56 x.toNat (by omega) (by omega)
       rw [e]
       omega)
    | (rw [wrapTab (x / 4294967296 / 65536) (by omega) (by omega) (by omega) 48 (by omega) (by omega)]
       have e : (x / 4294967296 / 65536).toNat = x.toNat / 281474976710656 := by omega
       have s := Lib.bitLen_shift48 x.toNat (by omega) (by omega)
       rw [e]
       omega)
    | (rw [wrapTab (x / 4294967296 / 256) (by omega) (by omega) (by omega) 40 (by omega) (by omega)]
       have e : (x / 4294967296 / 256).toNat = x.toNat / 1099511627776 := by omega
       have s := Lib.bitLen_shift40 x.toNat (by omega) (by omega)
       rw [e]
       omega)
    | (rw [wrapTab (x / 4294967296) (by omega) (by omega) (by omega) 32 (by omega) (by omega)]
       have e : (x / 4294967296).toNat = x.toNat / 4294967296 := by omega
       have s := Lib.bitLen_shift32 x.toNat (by omega) (by omega)
       rw [e]
       omega)
    | (rw [wrapTab (x / 65536 / 256) (by omega) (by omega) (by omega) 24 (by omega) (by omega)]
       have e : (x / 65536 / 256).toNat = x.toNat / 16777216 := by omega
       have s := Lib.bitLen_shift24 x.toNat (by omega) (by omega)
       rw [e]
       omega)
    | (rw [wrapTab (x / 65536) (by omega) (by omega) (by omega) 16 (by omega) (by omega)]
       have e : (x / 65536).toNat = x.toNat / 65536 := by omega
       have s := Lib.bitLen_shift16 x.toNat (by omega) (by omega)
       rw [e]
       omega)
    | (rw [wrapTab (x / 256) (by omega) (by omega) (by omega) 8 (by omega) (by omega)]
       have e : (x / 256).toNat = x.toNat / 256 := by omega
       have s := Lib.bitLen_shift8 x.toNat (by omega) (by omega)
       rw [e]
       omega)
    | exact wrapTab0 x (by omega) (by omega) (by omega)
theorem lz_any (x : Int) (w : World) (h0 : 0 <= x) (h1 : x <= 18446744073709551615) (hl : Lib.bitLen x.toNat <= 64) :
    Calls Tryz.prog 139 #[.int .u64 x] w fun e w' => e = .returned (.int .i64 (64 - (Lib.bitLen x.toNat : Int))) /\ w = w' := by
  go_enter Tryz.func139, Tryz.ntmps139
  go_wp2_with fail
  refine (len64_any x _ h0 h1).mono ?_
  rintro e w' ⟨rfl, rfl⟩
  go_wp2
  go_ret
  exact ⟨rfl, rfl⟩
end Go.Proofs.YtljmddjlnlmenaaGreat.Dv

end

section
namespace Go.Proofs.YtljmddjlnlmenaaGreat.Dv
open Go.ChangeShapes Go.WideShapes Go.ChangeAt Go.RowKit
theorem next (a b h U : Int) (E : Hid (a * h + b = U)) : Hid ((a - 1) * h + (b + h) = U) := by
  have e := E.out
  have k : (a - 1) * h = a * h - h := by rw [Int.sub_mul, Int.one_mul]
  exact Lib.hid (by omega)
set_option maxHeartbeats 4000000 in
set_option maxRecDepth 100000 in
theorem div64_core (hi lo y : Int) (w : World) (a0 : 1 <= hi) (a1 : hi < y) (b0 : 0 <= lo) (b1 : lo <= 18446744073709551615) (y0 : 1 <= y) (y1 : y <= 100000000000000)
    (s : Nat) (s0 : 1 <= s) (s1 : s <= 63) (HL : Hid (∀ w, Calls Tryz.prog 139 #[.int .u64 y] w fun e w' => e = .returned (.int .i64 s) /\ w = w'))
    (Y X Z U V h l d1 d0 Q1 R1 Q0 T : Int) (hY : IntKind.u64.wrap (y * 2 ^ s) = Y) (hX : IntKind.u64.wrap (hi * 2 ^ s) = X) (hZ : lo / 2 ^ (64 - s) = Z)
    (hU : bits .or .u64 X Z = U) (hV : IntKind.u64.wrap (lo * 2 ^ s) = V) (hl : bits .and .u64 Y 4294967295 = l) (hh : Y / 4294967296 = h)
    (hd1 : V / 4294967296 = d1) (hd0 : bits .and .u64 V 4294967295 = d0)
    (D1 : Digit U d1 h l Y Q1) (D0 : Digit R1 d0 h l Y Q0)
    (hR1 : IntKind.u64.wrap (IntKind.u64.wrap (IntKind.u64.wrap (U * 4294967296) + d1) - IntKind.u64.wrap (Q1 * Y)) = R1)
    (hT : IntKind.u64.wrap (IntKind.u64.wrap (IntKind.u64.wrap (R1 * 4294967296) + d0) - IntKind.u64.wrap (Q0 * Y)) = T) :
    Calls Tryz.prog 128 #[.int .u64 hi, .int .u64 lo, .int .u64 y] w fun e w' => e = .returned (.tuple #[.int .u64 (Q1 * 4294967296 + Q0), .int .u64 (T / 2 ^ s)]) /\ Below w.heap.size w w' := by
  have hb : (y == 0) = false := by simp; omega
  have hb2 : (hi == 0) = false := by simp; omega
  have h0 := D1.h0
  have h1 := D1.h1
  have l0 := D1.l0
  have l1 := D1.l1
  have e10 := D1.d0
  have e11 := D1.d1
  have e00 := D0.d0
  have e01 := D0.d1
  have u0 := D1.u0
  have u2 : U < 18446744073709551616 := by have := D1.u1; have := D1.ey; omega
  have r0 := D0.u0
  have r2 : R1 < 18446744073709551616 := by have := D0.u1; have := D0.ey; omega
  have q10 := D1.q0
  have q11 := D1.small
  have q00 := D0.q0
  have q01 := D0.small
  have S1 := D1.start
  have S0 := D0.start
  have t1 : 0 <= U / h * h := Int.mul_nonneg S1.2.2.2.2.1 (by omega)
  have t2 : 0 <= R1 / h * h := Int.mul_nonneg S0.2.2.2.2.1 (by omega)
  have SS1 := Lib.hid S1
  have SS0 := Lib.hid S0
  have S11 := S1.2
  have S01 := S0.2
  have v1 : U / h * h <= U := by omega
  have v0 : R1 / h * h <= R1 := by omega
  clear S1 S0
  go_enter Tryz.func128, Tryz.ntmps128
  go_wp2_with fail
  refine (HL.out _).mono ?_
  rintro e w' ⟨rfl, rfl⟩
  go_upto_block 0 with fail
  go_cut [15, 16] (fun q r wx => q = .int .u64 Q1 /\ w = wx)
  case first =>
    go_wp2_with fail
    go_loop [15, 16] (fun q r => ∃ a b : Int, q = .int .u64 a /\ r = .int .u64 b /\ Hid (a * h + b = U) /\ 0 <= b /\ b < 4294967296 /\ Q1 <= a /\ a <= 4294967297) (fun q _ => (intOf q).toNat)
    case atStart => exact ⟨_, _, rfl, rfl, Lib.hid SS1.out.1, by omega, by omega, by omega, by omega⟩
    case round =>
      obtain ⟨a, b, rfl, rfl, E, b0, b1, aQ, a1⟩ := hrel
      have En := next a b h _ E
      by_cases c1 : 4294967296 <= a
      . have am := D1.more E.out (Or.inl c1)
        by_cases c3 : b + h < 4294967296
        . go_wp2
          go_round
          case rel => exact ⟨a - 1, b + h, rfl, rfl, En, by omega, by omega, by omega, by omega⟩
          case measure => simp [intOf]; omega
        . have st := D1.stop (q := a - 1) En.out (by omega) (by omega) (by omega)
          have fin : a - 1 = Q1 := by omega
          have Fin := Lib.hid fin; clear fin
          go_wp2_with fail
          go_meet
          exact ⟨congrArg (Value.int .u64) Fin.out, rfl⟩
      . have p0 : 0 <= a * l := Int.mul_nonneg (by omega) l0
        have p1 : a * l <= 4294967296 * 4294967296 := Int.mul_le_mul (by omega) (by omega) l0 (by omega)
        have p2 : a * l <= 4294967295 * 4294967295 := Int.mul_le_mul (by omega) (by omega) l0 (by omega)
        by_cases c2 : 4294967296 * b + d1 < a * l
        . have am := D1.more E.out (Or.inr c2)
          by_cases c3 : b + h < 4294967296
          . go_wp2
            go_round
            case rel => exact ⟨a - 1, b + h, rfl, rfl, En, by omega, by omega, by omega, by omega⟩
            case measure => simp [intOf]; omega
          . have st := D1.stop (q := a - 1) En.out (by omega) (by omega) (by omega)
            have fin : a - 1 = Q1 := by omega
            have Fin := Lib.hid fin; clear fin
            go_wp2_with fail
            go_meet
            exact ⟨congrArg (Value.int .u64) Fin.out, rfl⟩
        . have st := D1.less E.out (by omega)
          have fin : a = Q1 := by omega
          have Fin := Lib.hid fin; clear fin
          go_wp2_with fail
          go_meet
          exact ⟨congrArg (Value.int .u64) Fin.out, rfl⟩
  case rest =>
    obtain ⟨rfl, rfl⟩ := hcut
    go_upto_block 2 with fail
    go_cut [18, 16] (fun q r wx => q = .int .u64 Q0 /\ w = wx)
    case first =>
      go_wp2_with fail
      go_loop [18, 16] (fun q r => ∃ a b : Int, q = .int .u64 a /\ r = .int .u64 b /\ Hid (a * h + b = R1) /\ 0 <= b /\ b < 4294967296 /\ Q0 <= a /\ a <= 4294967297) (fun q _ => (intOf q).toNat)
      case atStart => exact ⟨_, _, rfl, rfl, Lib.hid SS0.out.1, by omega, by omega, by omega, by omega⟩
      case round =>
        obtain ⟨a, b, rfl, rfl, E, b0, b1, aQ, a1⟩ := hrel
        have En := next a b h _ E
        by_cases c1 : 4294967296 <= a
        . have am := D0.more E.out (Or.inl c1)
          by_cases c3 : b + h < 4294967296
          . go_wp2
            go_round
            case rel => exact ⟨a - 1, b + h, rfl, rfl, En, by omega, by omega, by omega, by omega⟩
            case measure => simp [intOf]; omega
          . have st := D0.stop (q := a - 1) En.out (by omega) (by omega) (by omega)
            have fin : a - 1 = Q0 := by omega
            have Fin := Lib.hid fin; clear fin
            go_wp2_with fail
            go_meet
            exact ⟨congrArg (Value.int .u64) Fin.out, rfl⟩
        . have p0 : 0 <= a * l := Int.mul_nonneg (by omega) l0
          have p1 : a * l <= 4294967296 * 4294967296 := Int.mul_le_mul (by omega) (by omega) l0 (by omega)
          have p2 : a * l <= 4294967295 * 4294967295 := Int.mul_le_mul (by omega) (by omega) l0 (by omega)
          by_cases c2 : 4294967296 * b + d0 < a * l
          . have am := D0.more E.out (Or.inr c2)
            by_cases c3 : b + h < 4294967296
            . go_wp2
              go_round
              case rel => exact ⟨a - 1, b + h, rfl, rfl, En, by omega, by omega, by omega, by omega⟩
              case measure => simp [intOf]; omega
            . have st := D0.stop (q := a - 1) En.out (by omega) (by omega) (by omega)
              have fin : a - 1 = Q0 := by omega
              have Fin := Lib.hid fin; clear fin
              go_wp2_with fail
              go_meet
              exact ⟨congrArg (Value.int .u64) Fin.out, rfl⟩
          . have st := D0.less E.out (by omega)
            have fin : a = Q0 := by omega
            have Fin := Lib.hid fin; clear fin
            go_wp2_with fail
            go_meet
            exact ⟨congrArg (Value.int .u64) Fin.out, rfl⟩
    case rest =>
      obtain ⟨rfl, rfl⟩ := hcut
      go_wp2
      go_ret2
      exact ⟨rfl, Below.refl _ _⟩
end Go.Proofs.YtljmddjlnlmenaaGreat.Dv

end

section
namespace Go.Proofs.YtljmddjlnlmenaaGreat.Mn
open Go.ChangeShapes Go.WideShapes Go.ChangeAt Go.RowKit
theorem times_y (x y d way : Int) (w : World) (h0 : 0 <= x) (h1 : x <= 100000000000000) (h : y < 0 \/ 100000000000000 < y) :
    Calls Tryz.prog 97 #[.int .i64 x, .int .i64 y, .int .i64 d, .int .i64 way] w fun e w' => e = .returned (.tuple #[.int .i64 0, .int .i64 2]) /\ Below w.heap.size w w' := by
  go_enter Tryz.func97, Tryz.ntmps97
  go_wp2_with fail
  refine (right_yes _ _ h0 h1).mono ?_
  rintro e w' ⟨rfl, rfl⟩
  go_wp2_with fail
  refine (right_no _ _ h).mono ?_
  rintro e w' ⟨rfl, rfl⟩
  go_wp2_with fail
  go_ret2
  exact ⟨rfl, ((Below.refl _ _).alloc (Nat.le_refl _) _)⟩
theorem times_d (x y d way : Int) (w : World) (h0 : 0 <= x) (h1 : x <= 100000000000000) (g0 : 0 <= y) (g1 : y <= 100000000000000) (h : d < 1) :
    Calls Tryz.prog 97 #[.int .i64 x, .int .i64 y, .int .i64 d, .int .i64 way] w fun e w' => e = .returned (.tuple #[.int .i64 0, .int .i64 2]) /\ Below w.heap.size w w' := by
  have hd : decide (d < 1) = true := by simp; omega
  go_enter Tryz.func97, Tryz.ntmps97
  go_wp2_with fail
  refine (right_yes _ _ h0 h1).mono ?_
  rintro e w' ⟨rfl, rfl⟩
  go_wp2_with fail
  refine (right_yes _ _ g0 g1).mono ?_
  rintro e w' ⟨rfl, rfl⟩
  go_wp2_with fail
  go_ret2
  exact ⟨rfl, ((Below.refl _ _).alloc (Nat.le_refl _) _)⟩
theorem times_e (x y d way : Int) (w : World) (h0 : 0 <= x) (h1 : x <= 100000000000000) (g0 : 0 <= y) (g1 : y <= 100000000000000) (d0 : 1 <= d) (h : 100000000000000 < d) :
    Calls Tryz.prog 97 #[.int .i64 x, .int .i64 y, .int .i64 d, .int .i64 way] w fun e w' => e = .returned (.tuple #[.int .i64 0, .int .i64 2]) /\ Below w.heap.size w w' := by
  have hd : decide (d < 1) = false := by simp; omega
  have hd2 : decide (100000000000000 < d) = true := by simp; omega
  go_enter Tryz.func97, Tryz.ntmps97
  go_wp2_with fail
  refine (right_yes _ _ h0 h1).mono ?_
  rintro e w' ⟨rfl, rfl⟩
  go_wp2_with fail
  refine (right_yes _ _ g0 g1).mono ?_
  rintro e w' ⟨rfl, rfl⟩
  go_wp2_with fail
  go_ret2
  exact ⟨rfl, ((Below.refl _ _).alloc (Nat.le_refl _) _)⟩
theorem times_w (x y d way : Int) (w : World) (h0 : 0 <= x) (h1 : x <= 100000000000000) (g0 : 0 <= y) (g1 : y <= 100000000000000) (d0 : 1 <= d) (d1 : d <= 100000000000000) (h : way < 0) :
    Calls Tryz.prog 97 #[.int .i64 x, .int .i64 y, .int .i64 d, .int .i64 way] w fun e w' => e = .returned (.tuple #[.int .i64 0, .int .i64 2]) /\ Below w.heap.size w w' := by
  have hd : decide (d < 1) = false := by simp; omega
  have hd2 : decide (100000000000000 < d) = false := by simp; omega
  have hd3 : decide (way < 0) = true := by simp; omega
  go_enter Tryz.func97, Tryz.ntmps97
  go_wp2_with fail
  refine (right_yes _ _ h0 h1).mono ?_
  rintro e w' ⟨rfl, rfl⟩
  go_wp2_with fail
  refine (right_yes _ _ g0 g1).mono ?_
  rintro e w' ⟨rfl, rfl⟩
  go_wp2_with fail
  go_ret2
  exact ⟨rfl, ((Below.refl _ _).alloc (Nat.le_refl _) _)⟩
theorem times_v (x y d way : Int) (w : World) (h0 : 0 <= x) (h1 : x <= 100000000000000) (g0 : 0 <= y) (g1 : y <= 100000000000000) (d0 : 1 <= d) (d1 : d <= 100000000000000) (h : 3 <= way) :
    Calls Tryz.prog 97 #[.int .i64 x, .int .i64 y, .int .i64 d, .int .i64 way] w fun e w' => e = .returned (.tuple #[.int .i64 0, .int .i64 2]) /\ Below w.heap.size w w' := by
  have hd : decide (d < 1) = false := by simp; omega
  have hd2 : decide (100000000000000 < d) = false := by simp; omega
  have hd3 : decide (way < 0) = false := by simp; omega
  have hd4 : decide (3 <= way) = true := by simp; omega
  go_enter Tryz.func97, Tryz.ntmps97
  go_wp2_with fail
  refine (right_yes _ _ h0 h1).mono ?_
  rintro e w' ⟨rfl, rfl⟩
  go_wp2_with fail
  refine (right_yes _ _ g0 g1).mono ?_
  rintro e w' ⟨rfl, rfl⟩
  go_wp2_with fail
  go_ret2
  exact ⟨rfl, ((Below.refl _ _).alloc (Nat.le_refl _) _)⟩
theorem times_no (x y d way : Int) (w : World) (h0 : 0 <= x) (h1 : x <= 100000000000000) (g0 : 0 <= y) (g1 : y <= 100000000000000) (d0 : 1 <= d) (d1 : d <= 100000000000000) (w0 : 0 <= way) (w1 : way <= 2)
    (HV : Hid (∀ w, Calls Tryz.prog 114 #[.int .i64 x, .int .i64 y, .int .i64 d] w fun e w' => e = .returned (.tuple #[.agg #[.int .i64 0, .int .i64 0, .int .i64 0], .bool false]) /\ Below w.heap.size w w')) :
    Calls Tryz.prog 97 #[.int .i64 x, .int .i64 y, .int .i64 d, .int .i64 way] w fun e w' => e = .returned (.tuple #[.int .i64 0, .int .i64 5]) /\ Below w.heap.size w w' := by
  have hd : decide (d < 1) = false := by simp; omega
  have hd2 : decide (100000000000000 < d) = false := by simp; omega
  have hd3 : decide (way < 0) = false := by simp; omega
  have hd4 : decide (3 <= way) = false := by simp; omega
  go_enter Tryz.func97, Tryz.ntmps97
  go_wp2_with fail
  refine (right_yes _ _ h0 h1).mono ?_
  rintro e w' ⟨rfl, rfl⟩
  go_wp2_with fail
  refine (right_yes _ _ g0 g1).mono ?_
  rintro e w' ⟨rfl, rfl⟩
  go_wp2_with fail
  refine (HV.out _).mono ?_
  rintro e w' ⟨rfl, hb⟩
  have hz := hb.size
  have hz0 : w.heap.size + 1 <= w'.heap.size := by simpa using hz
  go_wp2_with fail
  go_ret2
  exact ⟨rfl, (((Below.refl _ _).alloc (Nat.le_refl _) _).trans (hb.mono (by simp))).alloc (by omega) _⟩
theorem rnd_ge (way q r d : Int) (hq : 0 <= q) : q <= rnd way q r d := by
  unfold rnd
  split
  . omega
  . split
    . omega
    . split <;> omega
theorem high_small (N d : Int) (hd : 1 <= d) (hq : N / d <= 100000000000000) : N / 18446744073709551616 < d := by
  have h1 : N < (N / d + 1) * d := Int.lt_ediv_add_one_mul_self N (by omega)
  have h2 : (N / d + 1) * d <= 100000000000001 * d := Int.mul_le_mul_of_nonneg_right (by omega) (by omega)
  omega
def timesV (way x y d : Int) : Int := if rnd way (x * y / d) (x * y % d) d <= 100000000000000 then rnd way (x * y / d) (x * y % d) d else 0
def timesE (way x y d : Int) : Int := if rnd way (x * y / d) (x * y % d) d <= 100000000000000 then 0 else 5
theorem mul_gives (x y : Int) (h0 : 0 <= x) (h1 : x <= 100000000000000) (g0 : 0 <= y) (g1 : y <= 100000000000000) :
    MulGives x y (x * y / 18446744073709551616) (x * y % 18446744073709551616) := by
  intro w
  obtain ⟨a, rfl⟩ := Int.eq_ofNat_of_zero_le h0
  obtain ⟨b, rfl⟩ := Int.eq_ofNat_of_zero_le g0
  have h := mul64_nat a b (by omega) (by omega) w
  have e1 : ((a * b / 18446744073709551616 : Nat) : Int) = (a : Int) * (b : Int) / 18446744073709551616 := by rw [<- Int.natCast_mul]; omega
  have e2 : ((a * b % 18446744073709551616 : Nat) : Int) = (a : Int) * (b : Int) % 18446744073709551616 := by rw [<- Int.natCast_mul]; omega
  rw [e1, e2] at h
  exact h
def DivNeed (x y d : Int) : Prop := x * y / 18446744073709551616 < d -> DivGives (x * y / 18446744073709551616) (x * y % 18446744073709551616) d (x * y / d) (x * y % d)
theorem need_small (x y d : Int) (h0 : 0 <= x * y) (h1 : x * y < 18446744073709551616) (d0 : 1 <= d) (d1 : d <= 100000000000000) : DivNeed x y d := by
  intro _ w
  have h := div64_zero (x * y) d h0 h1 d0 d1 w
  have e : (0 : Int) * 18446744073709551616 + x * y = x * y := by omega
  have e1 : x * y / 18446744073709551616 = 0 := by omega
  have e2 : x * y % 18446744073709551616 = x * y := by omega
  rw [e] at h
  rw [e1, e2]
  exact h
theorem times_any (way x y d : Int) (w : World) (h0 : 0 <= x) (h1 : x <= 100000000000000) (g0 : 0 <= y) (g1 : y <= 100000000000000) (d0 : 1 <= d) (d1 : d <= 100000000000000) (w0 : 0 <= way) (w1 : way <= 2) (hD : DivNeed x y d) :
    Calls Tryz.prog 97 #[.int .i64 x, .int .i64 y, .int .i64 d, .int .i64 way] w fun e w' => e = .returned (.tuple #[.int .i64 (timesV way x y d), .int .i64 (timesE way x y d)]) /\ Below w.heap.size w w' := by
  have hN : 0 <= x * y := Int.mul_nonneg h0 g0
  have hq0 : 0 <= x * y / d := Int.ediv_nonneg hN (by omega)
  have hr0 : 0 <= x * y % d := Int.emod_nonneg _ (by omega)
  have hr1 : x * y % d < d := Int.emod_lt_of_pos _ (by omega)
  have hge := rnd_ge way (x * y / d) (x * y % d) d hq0
  have hM := mul_gives x y h0 h1 g0 g1
  unfold timesV timesE
  by_cases hq : x * y / d <= 100000000000000
  . have hhi := high_small (x * y) d d0 hq
    have HV := Lib.hid (fun w => divide_ok x y d _ _ _ _ w h0 h1 g0 g1 d0 d1 hM (hD hhi) hhi hq0 hq hr0 hr1)
    by_cases hv : rnd way (x * y / d) (x * y % d) d <= 100000000000000
    . rw [if_pos hv, if_pos hv]
      have HR := Lib.hid (fun w => ranged_yes (rnd way (x * y / d) (x * y % d) d) w (by omega) hv)
      obtain rfl | rfl | rfl : way = 0 \/ way = 1 \/ way = 2 := by omega
      . exact times_way0 _ _ _ _ _ x y w h0 h1 g0 g1 d0 d1 HV (Lib.hid (fun w => down_any _ _ _ w)) HR
      . exact times_way1 _ _ _ _ _ x y w h0 h1 g0 g1 d0 d1 HV (Lib.hid (fun w => halfUp_any _ _ _ w hr0 (by omega) hq0 hq)) HR
      . exact times_way2 _ _ _ _ _ x y w h0 h1 g0 g1 d0 d1 HV (Lib.hid (fun w => halfEven_any _ _ _ w hr0 (by omega) hq0 hq)) HR
    . rw [if_neg hv, if_neg hv]
      have HR := Lib.hid (fun w => ranged_no (rnd way (x * y / d) (x * y % d) d) w (by omega))
      obtain rfl | rfl | rfl : way = 0 \/ way = 1 \/ way = 2 := by omega
      . exact times_way0 _ _ _ _ _ x y w h0 h1 g0 g1 d0 d1 HV (Lib.hid (fun w => down_any _ _ _ w)) HR
      . exact times_way1 _ _ _ _ _ x y w h0 h1 g0 g1 d0 d1 HV (Lib.hid (fun w => halfUp_any _ _ _ w hr0 (by omega) hq0 hq)) HR
      . exact times_way2 _ _ _ _ _ x y w h0 h1 g0 g1 d0 d1 HV (Lib.hid (fun w => halfEven_any _ _ _ w hr0 (by omega) hq0 hq)) HR
  . rw [if_neg (by omega), if_neg (by omega)]
    by_cases hhi : x * y / 18446744073709551616 < d
    . exact times_no x y d way w h0 h1 g0 g1 d0 d1 w0 w1 (Lib.hid (fun w => divide_over x y d _ _ _ _ w h0 h1 g0 g1 d0 d1 hM (hD hhi) hhi (by omega)))
    . exact times_no x y d way w h0 h1 g0 g1 d0 d1 w0 w1 (Lib.hid (fun w => divide_high x y d _ _ w h0 h1 g0 g1 d0 d1 hM (by omega)))
theorem times_bad (way x y d : Int) (w : World) (h : x < 0 \/ 100000000000000 < x \/ y < 0 \/ 100000000000000 < y \/ d < 1 \/ 100000000000000 < d \/ way < 0 \/ 2 < way) :
    Calls Tryz.prog 97 #[.int .i64 x, .int .i64 y, .int .i64 d, .int .i64 way] w fun e w' => e = .returned (.tuple #[.int .i64 0, .int .i64 2]) /\ Below w.heap.size w w' := by
  by_cases hx : x < 0 \/ 100000000000000 < x
  . exact times_x x y d way w hx
  by_cases hy : y < 0 \/ 100000000000000 < y
  . exact times_y x y d way w (by omega) (by omega) hy
  by_cases hd : d < 1
  . exact times_d x y d way w (by omega) (by omega) (by omega) (by omega) hd
  by_cases he : 100000000000000 < d
  . exact times_e x y d way w (by omega) (by omega) (by omega) (by omega) (by omega) he
  by_cases hw : way < 0
  . exact times_w x y d way w (by omega) (by omega) (by omega) (by omega) (by omega) (by omega) hw
  . exact times_v x y d way w (by omega) (by omega) (by omega) (by omega) (by omega) (by omega) (by omega)
theorem rate_bad (x rate way : Int) (w : World) (h : rate < 0 \/ 10000 < rate) :
    Calls Tryz.prog 62 #[.int .i64 x, .int .i64 rate, .int .i64 way] w fun e w' => e = .returned (.tuple #[.int .i64 0, .int .i64 2]) /\ Below w.heap.size w w' := by
  by_cases h0 : rate < 0
  . have hd : decide (rate < 0) = true := by simp; omega
    go_enter Tryz.func62, Tryz.ntmps62
    go_wp2_with fail
    go_ret2
    exact ⟨rfl, Below.refl _ _⟩
  . have hd : decide (rate < 0) = false := by simp; omega
    have hd2 : decide (10000 < rate) = true := by simp; omega
    go_enter Tryz.func62, Tryz.ntmps62
    go_wp2_with fail
    go_ret2
    exact ⟨rfl, Below.refl _ _⟩
theorem rate_any (x rate way v e5 : Int) (w : World) (h0 : 0 <= rate) (h1 : rate <= 10000)
    (HT : Hid (∀ w, Calls Tryz.prog 97 #[.int .i64 x, .int .i64 rate, .int .i64 10000, .int .i64 way] w fun e w' => e = .returned (.tuple #[.int .i64 v, .int .i64 e5]) /\ Below w.heap.size w w')) :
    Calls Tryz.prog 62 #[.int .i64 x, .int .i64 rate, .int .i64 way] w fun e w' => e = .returned (.tuple #[.int .i64 v, .int .i64 e5]) /\ Below w.heap.size w w' := by
  have hd : decide (rate < 0) = false := by simp; omega
  have hd2 : decide (10000 < rate) = false := by simp; omega
  go_enter Tryz.func62, Tryz.ntmps62
  go_wp2_with fail
  refine (HT.out _).mono ?_
  rintro e w' ⟨rfl, hb⟩
  go_wp2
  go_ret2
  exact ⟨rfl, hb⟩
theorem parts_of (N q r d : Int) (h : N = q * d + r) (r0 : 0 <= r) (r1 : r < d) : N / d = q /\ N % d = r := by
  have hd : d ≠ 0 := by omega
  rw [h, Int.add_comm]
  exact ⟨by rw [Int.add_mul_ediv_right _ _ hd, Int.ediv_eq_zero_of_lt r0 r1]; omega, by rw [Int.add_mul_emod_self_right]; exact Int.emod_eq_of_lt r0 r1⟩
theorem add_ok (a b : Int) (w : World) (h0 : 0 <= a) (h1 : a <= 100000000000000) (g0 : 0 <= b) (g1 : b <= 100000000000000) (h : a + b <= 100000000000000) :
    Calls Tryz.prog 102 #[.int .i64 a, .int .i64 b] w fun e w' => e = .returned (.tuple #[.int .i64 (a + b), .int .i64 0]) /\ w = w' := by
  go_enter Tryz.func102, Tryz.ntmps102
  go_wp2_with fail
  refine (right_yes _ _ h0 h1).mono ?_
  rintro e w' ⟨rfl, rfl⟩
  go_wp2_with fail
  refine (right_yes _ _ g0 g1).mono ?_
  rintro e w' ⟨rfl, rfl⟩
  go_wp2_with fail
  refine (ranged_yes _ _ (by omega) h).mono ?_
  rintro e w' ⟨rfl, rfl⟩
  go_wp2
  go_ret2
  exact ⟨rfl, rfl⟩
theorem add_over (a b : Int) (w : World) (h0 : 0 <= a) (h1 : a <= 100000000000000) (g0 : 0 <= b) (g1 : b <= 100000000000000) (h : 100000000000000 < a + b) :
    Calls Tryz.prog 102 #[.int .i64 a, .int .i64 b] w fun e w' => e = .returned (.tuple #[.int .i64 0, .int .i64 5]) /\ w = w' := by
  go_enter Tryz.func102, Tryz.ntmps102
  go_wp2_with fail
  refine (right_yes _ _ h0 h1).mono ?_
  rintro e w' ⟨rfl, rfl⟩
  go_wp2_with fail
  refine (right_yes _ _ g0 g1).mono ?_
  rintro e w' ⟨rfl, rfl⟩
  go_wp2_with fail
  refine (ranged_no _ _ (Or.inr h)).mono ?_
  rintro e w' ⟨rfl, rfl⟩
  go_wp2
  go_ret2
  exact ⟨rfl, rfl⟩
end Go.Proofs.YtljmddjlnlmenaaGreat.Mn

end
