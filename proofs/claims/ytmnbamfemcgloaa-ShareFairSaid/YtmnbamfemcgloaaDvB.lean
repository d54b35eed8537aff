/- math/bits.Len64, LeadingZeros64, Div64: contracts. -/
import Derived.Test.YtmnbamfemcgloaaMnB
import Derived.Test.YtmnbamfemcgloaaDvA
import Derived.Lib.BitFns
import Derived.Lib.Strings
import Derived.Lib.Slices
import Derived.Lib.Small
import Derived.Lib.Walk
import Derived.Deep.CutBlock
import Derived.Deep.DeepCutAuto
set_option linter.unusedVariables false
namespace Go.Proofs.Ytmnbamfemcgloaa.Dv
open Go.ChangeShapes Go.WideShapes Go.ChangeAt Go.RowKit

/-- A length in bits. -/
def Bits (x : Int) (n : Nat) : Prop := (2 : Int) ^ (n - 1) ≤ x ∧ x < 2 ^ n ∧ 1 ≤ n ∧ n ≤ 64

theorem bits_lib : ∀ (f x : Nat), 0 < x → x < 2 ^ f → 2 ^ (Lib.bitLenAux f x - 1) ≤ x ∧ x < 2 ^ Lib.bitLenAux f x ∧ 1 ≤ Lib.bitLenAux f x ∧ Lib.bitLenAux f x ≤ f
  | 0, x, h0, h1 => by simp at h1; omega
  | f + 1, x, h0, h1 => by
    unfold Lib.bitLenAux
    rw [if_neg (by omega)]
    by_cases h : x / 2 = 0
    · rw [h]
      have e : Lib.bitLenAux f 0 = 0 := by cases f <;> simp [Lib.bitLenAux]
      rw [e]
      have : x = 1 := by omega
      subst this
      exact ⟨by decide, by decide, by omega, by omega⟩
    · obtain ⟨a, b, c, d⟩ := bits_lib f (x / 2) (by omega) (by rw [Nat.pow_succ] at h1; omega)
      obtain ⟨n, hn⟩ : ∃ n, Lib.bitLenAux f (x / 2) = n + 1 := ⟨Lib.bitLenAux f (x / 2) - 1, by omega⟩
      rw [hn] at a b c d ⊢
      have e1 : 2 ^ (1 + (n + 1)) = 2 * 2 ^ (n + 1) := by rw [Nat.add_comm, Nat.pow_succ, Nat.mul_comm]
      have e2 : 1 + (n + 1) - 1 = n + 1 := by omega
      have e3 : 2 ^ (n + 1) = 2 * 2 ^ n := by rw [Nat.pow_succ, Nat.mul_comm]
      rw [e1, e2, e3]
      simp only [Nat.add_sub_cancel] at a
      rw [e3] at b
      exact ⟨by omega, by omega, by omega, by omega⟩

theorem bits_of (x : Int) (h0 : 1 ≤ x) (h1 : x < 18446744073709551616) : Bits x (Lib.bitLen x.toNat) := by
  obtain ⟨n, rfl⟩ := Int.eq_ofNat_of_zero_le (show 0 ≤ x by omega)
  obtain ⟨a, b, c, d⟩ := bits_lib 64 n (by omega) (by omega)
  have e : ((n : Int)).toNat = n := Int.toNat_natCast n
  rw [e]
  unfold Lib.bitLen Bits
  refine ⟨?_, ?_, c, d⟩
  · exact_mod_cast a
  · exact_mod_cast b

theorem tabSize : Lib.len8tab.size = 256 := by decide +kernel
theorem tabAll : ∀ n : Fin 256, (Lib.len8tab[n.val]'(by rw [tabSize]; exact n.isLt)).toNat = Lib.bitLen n.val := by decide +kernel
theorem tab (i : Int) (h : i.toNat < Lib.len8tab.size) (h1 : i ≤ 255) : ((Lib.len8tab[i.toNat]'h).toNat : Int) = Lib.bitLen i.toNat := by
  have := tabAll ⟨i.toNat, by omega⟩
  exact congrArg Nat.cast this
theorem len8 (i : Int) (h0 : 0 ≤ i) (h1 : i ≤ 255) : Lib.bitLen i.toNat ≤ 8 := Lib.bitLen_le8' i h0 h1
theorem wrapTab (i : Int) (h : i.toNat < Lib.len8tab.size) (h0 : 0 ≤ i) (h1 : i ≤ 255) (k : Int) (k0 : 0 ≤ k) (k1 : k ≤ 100) :
    wrap64 (k + wrap64 ((Lib.len8tab[i.toNat]'h).toNat : Int)) = k + Lib.bitLen i.toNat := by
  rw [tab i h h1]
  have := len8 i h0 h1
  rw [IntWalk.wrap64_in (Lib.bitLen i.toNat) ⟨by omega, by omega⟩, IntWalk.wrap64_in _ ⟨by omega, by omega⟩]
theorem wrapTab0 (i : Int) (h : i.toNat < Lib.len8tab.size) (h0 : 0 ≤ i) (h1 : i ≤ 255) :
    wrap64 (wrap64 ((Lib.len8tab[i.toNat]'h).toNat : Int)) = Lib.bitLen i.toNat := by
  have := wrapTab i h h0 h1 0 (by omega) (by omega)
  simpa using this

set_option maxHeartbeats 4000000 in
set_option maxRecDepth 100000 in
theorem len64_any (x : Int) (w : World) (h0 : 0 ≤ x) (h1 : x ≤ 18446744073709551615) :
    Calls Try.prog 54 #[.int .u64 x] w fun e w' => e = .returned (.int .i64 (Lib.bitLen x.toNat)) ∧ w = w' := by
  have hz : Lib.len8tab.size = 256 := tabSize
  go_enter Try.func54, Try.ntmps54
  go_wp2
  all_goals (go_ret; refine ⟨congrArg Ending.returned (congrArg (Value.int IntKind.i64) ?_), rfl⟩)
  all_goals first
    | (rw [wrapTab (x / 4294967296 / 65536 / 256) (by omega) (by omega) (by omega) 56 (by omega) (by omega)]
       have e : (x / 4294967296 / 65536 / 256).toNat = x.toNat / 72057594037927936 := by omega
       have s := Lib.bitLen_shift56 x.toNat (by omega) (by omega)
       rw [e]
       omega)
    | (rw [wrapTab (x / 4294967296 / 65536) (by omega) (by omega) (by omega) 48 (by omega) (by omega)]
       have e : (x / 4294967296 / 65536).toNat = x.toNat / 281474976710656 := by omega
       have s := Lib.bitLen_shift48 x.toNat (by omega) (by omega)
       rw [e]
       omega)
    | (rw [wrapTab (x / 4294967296 / 256) (by omega) (by omega) (by omega) 40 (by omega) (by omega)]
       have e : (x / 4294967296 / 256).toNat = x.toNat / 1099511627776 := by omega
       have s := Lib.bitLen_shift40 x.toNat (by omega) (by omega)
       rw [e]
       omega)
    | (rw [wrapTab (x / 4294967296) (by omega) (by omega) (by omega) 32 (by omega) (by omega)]
       have e : (x / 4294967296).toNat = x.toNat / 4294967296 := by omega
       have s := Lib.bitLen_shift32 x.toNat (by omega) (by omega)
       rw [e]
       omega)
    | (rw [wrapTab (x / 65536 / 256) (by omega) (by omega) (by omega) 24 (by omega) (by omega)]
       have e : (x / 65536 / 256).toNat = x.toNat / 16777216 := by omega
       have s := Lib.bitLen_shift24 x.toNat (by omega) (by omega)
       rw [e]
       omega)
    | (rw [wrapTab (x / 65536) (by omega) (by omega) (by omega) 16 (by omega) (by omega)]
       have e : (x / 65536).toNat = x.toNat / 65536 := by omega
       have s := Lib.bitLen_shift16 x.toNat (by omega) (by omega)
       rw [e]
       omega)
    | (rw [wrapTab (x / 256) (by omega) (by omega) (by omega) 8 (by omega) (by omega)]
       have e : (x / 256).toNat = x.toNat / 256 := by omega
       have s := Lib.bitLen_shift8 x.toNat (by omega) (by omega)
       rw [e]
       omega)
    | exact wrapTab0 x (by omega) (by omega) (by omega)

theorem lz_any (x : Int) (w : World) (h0 : 0 ≤ x) (h1 : x ≤ 18446744073709551615) (hl : Lib.bitLen x.toNat ≤ 64) :
    Calls Try.prog 51 #[.int .u64 x] w fun e w' => e = .returned (.int .i64 (64 - (Lib.bitLen x.toNat : Int))) ∧ w = w' := by
  go_enter Try.func51, Try.ntmps51
  go_wp2_with fail
  refine (len64_any x _ h0 h1).mono ?_
  rintro e w' ⟨rfl, rfl⟩
  go_wp2
  go_ret
  exact ⟨rfl, rfl⟩

end Go.Proofs.Ytmnbamfemcgloaa.Dv
