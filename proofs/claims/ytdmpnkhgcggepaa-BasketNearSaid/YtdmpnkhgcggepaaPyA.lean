/- Contracts of the statements' plain things: Mod, Mod64, Sku, Category, pick; the document's Name and in. -/
import Derived.Test.YtdmpnkhgcggepaaKa
import Derived.Laws.Concat
set_option maxRecDepth 100000

set_option linter.unusedVariables false
namespace Go.Proofs.Ytdmpnkhgcggepaa.Py
open Go.ChangeShapes Go.WideShapes Go.ChangeAt Go.RowKit

/-- A number from 0 to one below n. -/
def modN (a n : Int) : Nat := ((IntKind.u64.wrap a) % n).toNat

theorem modN_lt (a n : Int) (h : 1 ≤ n) : (modN a n : Int) < n := by
  unfold modN
  have h2 := Int.emod_nonneg (IntKind.u64.wrap a) (show n ≠ 0 by omega)
  have h3 := Int.emod_lt_of_pos (IntKind.u64.wrap a) (show 0 < n by omega)
  omega

theorem modN_of {a n : Int} (h0 : 0 ≤ a) (h1 : a < n) (h2 : n ≤ 9223372036854775807) : (modN a n : Int) = a := by
  unfold modN
  rw [IntKind.wrap_u64]
  have : a % 18446744073709551616 = a := Int.emod_eq_of_lt h0 (by omega)
  rw [this, Int.emod_eq_of_lt h0 h1]
  omega

theorem modN_num (k n : Nat) (h : k < n) (hn : n ≤ 9223372036854775807) : modN (k : Int) (n : Int) = k := by
  have := modN_of (a := (k : Int)) (n := (n : Int)) (by omega) (by omega) (by omega)
  omega

theorem mod_any (a n : Int) (w : World) (hn : 1 ≤ n) (hn1 : n ≤ 9223372036854775807) :
    Calls Try.prog 26 #[.int .i64 a, .int .i64 n] w fun e w' => e = .returned (.int .i64 (modN a n : Int)) ∧ w' = w := by
  obtain ⟨t, t1, t2, t3, t4⟩ := By.umod_in a n hn hn1
  have hw : IntKind.u64.wrap n = n := by rw [IntKind.wrap_u64]; omega
  have hm : modN a n = t := by unfold modN; omega
  have n0 : n ≠ 0 := by omega
  rw [hm]
  clear hm
  go_enter Try.func26, Try.ntmps26
  go_wp2
  go_ret
  exact ⟨congrArg (fun z => Ending.returned (.int .i64 z)) t1, rfl⟩

theorem mod64_any (a n : Int) (w : World) (hn : 1 ≤ n) (hn1 : n ≤ 9223372036854775807) :
    Calls Try.prog 27 #[.int .i64 a, .int .i64 n] w fun e w' => e = .returned (.int .i64 (modN a n : Int)) ∧ w' = w := by
  obtain ⟨t, t1, t2, t3, t4⟩ := By.umod_in a n hn hn1
  have hw : IntKind.u64.wrap n = n := by rw [IntKind.wrap_u64]; omega
  have hm : modN a n = t := by unfold modN; omega
  have n0 : n ≠ 0 := by omega
  rw [hm]
  clear hm
  go_enter Try.func27, Try.ntmps27
  go_wp2
  go_ret
  exact ⟨congrArg (fun z => Ending.returned (.int .i64 z)) t1, rfl⟩

/-- A text of one byte. -/
def chr (c : Nat) : ByteArray := By.strOf [UInt8.ofNat c]

def skuS (k : Nat) : ByteArray := chr (97 + k)

def catS (k : Nat) : ByteArray := chr (120 + k)

theorem sku_any (a : Int) (w : World) : Calls Try.prog 41 #[.int .i64 a] w fun e w' => e = .returned (.string (skuS (modN a 8))) ∧ Below w.heap.size w w' := by
  have HM := Lib.hid (mod_any a 8 w (by omega) (by omega))
  have ht := modN_lt a 8 (by omega)
  generalize hk : modN a 8 = t at HM ht ⊢
  have hr := fun W => By.run_text (P := Try.prog) (c := 1) 79 9 5 Try.underlying79 Try.underlying5 Try.underlying9 (By.Bys.made W 5 (97 + (t : Int)) (by omega) (by omega))
  have e : (97 + (t : Int)).toNat = 97 + t := by omega
  rw [e] at hr
  have es : By.strOf [UInt8.ofNat (97 + t)] = skuS t := rfl
  simp only [es] at hr
  clear es
  clear hk
  go_enter Try.func41, Try.ntmps41
  go_wp2_with fail
  refine HM.out.mono ?_
  rintro e w1 ⟨rfl, rfl⟩
  go_wp2
  go_ret
  exact ⟨rfl, (Below.refl _ _).alloc (Nat.le_refl _) _⟩

theorem category_any (a : Int) (w : World) : Calls Try.prog 42 #[.int .i64 a] w fun e w' => e = .returned (.string (catS (modN a 3))) ∧ Below w.heap.size w w' := by
  have HM := Lib.hid (mod_any a 3 w (by omega) (by omega))
  have ht := modN_lt a 3 (by omega)
  generalize hk : modN a 3 = t at HM ht ⊢
  have hr := fun W => By.run_text (P := Try.prog) (c := 1) 79 9 5 Try.underlying79 Try.underlying5 Try.underlying9 (By.Bys.made W 5 (120 + (t : Int)) (by omega) (by omega))
  have e : (120 + (t : Int)).toNat = 120 + t := by omega
  rw [e] at hr
  have es : By.strOf [UInt8.ofNat (120 + t)] = catS t := rfl
  simp only [es] at hr
  clear es
  clear hk
  go_enter Try.func42, Try.ntmps42
  go_wp2_with fail
  refine HM.out.mono ?_
  rintro e w1 ⟨rfl, rfl⟩
  go_wp2
  go_ret
  exact ⟨rfl, (Below.refl _ _).alloc (Nat.le_refl _) _⟩

/-! ### The number that a text stands for -/
def pickTo (s : ByteArray) : Nat → Int
  | 0 => (s.size : Int)
  | k + 1 => wrap64 (wrap64 (7 * pickTo s k) + By.at_ s.data.toList k)

def pickS (s : ByteArray) : Int := pickTo s (min s.size 8)

theorem index_in {s : ByteArray} {k : Nat} (hk : k < s.size) : s[k]? = some (s.data.toList.getD k 0) := by
  rw [ByteArray.getElem?_lt' s k hk]
  congr 1
  have : k < s.data.toList.length := by rw [By.size_list]; exact hk
  rw [List.getD, List.getElem?_eq_getElem this]
  rfl

theorem run_at (t : TypeId) (ht : Try.prog.underlying t = some .string) (s : ByteArray) (k : Nat) (hk : k < s.size) (W : World) : (Instr.index t (.string s) (.int .i64 (k : Int))).run Try.prog W = .ok (.int .u8 (By.at_ s.data.toList k)) W := by
  have h := index_in hk
  have hk0 : (0 : Int) ≤ (k : Int) := by omega
  rw [run_index_string W t s .i64 (k : Int) ht]
  have e : (s.data.toList.getD k 0) = s[k] := by
    have := ByteArray.getElem?_lt' s k hk
    rw [h] at this
    exact Option.some.inj this
  unfold By.at_
  rw [e]
  simp [hk]

theorem pick_any (s : ByteArray) (w : World) (hs : s.size ≤ maxLen) : Calls Try.prog 43 #[.string s] w fun e w' => e = .returned (.int .i64 (pickS s)) ∧ w = w' := by
  unfold maxLen at hs
  have hA := fun k (hk : k < s.size) W => run_at 9 Try.underlying9 s k hk W
  have h0 : (s.size : Int) = pickTo s 0 := rfl
  have hp : ∀ k, pickTo s (k + 1) = wrap64 (wrap64 (7 * pickTo s k) + By.at_ s.data.toList k) := fun k => rfl
  have HP := Lib.hid hp
  have HA := Lib.hid hA
  have H0 := Lib.hid h0
  clear hA h0 hp
  go_enter Try.func43, Try.ntmps43
  go_wp2
  go_loopw [3, 4] (fun s3 s4 wr => ∃ k : Nat, s3 = .int .i64 (pickTo s k) ∧ s4 = .int .i64 k ∧ k ≤ s.size ∧ k ≤ 8 ∧ wr = w) (fun _ s4 _ => 8 - (intOf s4).toNat)
  case atStart => exact ⟨0, by rw [← H0.out], rfl, by omega, by omega, by trivial⟩
  case round =>
    obtain ⟨k, rfl, rfl, hk, hk8, rfl⟩ := hrel
    by_cases h1 : k < s.size
    · have k1 : (k : Int) < (s.size : Int) := by omega
      by_cases h2 : k < 8
      · have k2 : (k : Int) < 8 := by omega
        have hi := HA.out k h1 wr
        have e := HP.out k
        have hb := By.at_in s.data.toList k
        generalize By.at_ s.data.toList k = b at hi e hb
        generalize hq : pickTo s k = q at e ⊢
        clear hq
        go_wp2
        go_roundw
        case rel => exact ⟨k + 1, by rw [e], by go_num, by omega, by omega, by trivial⟩
        case measure => simp [intOf]; omega
      · have k2 : ¬ (k : Int) < 8 := by omega
        have e : pickS s = pickTo s k := by unfold pickS; congr 1; omega
        have HE := Lib.hid e
        clear e
        go_wp2
        go_ret
        exact ⟨by rw [HE.out]; rfl, rfl⟩
    · have k1 : ¬ (k : Int) < (s.size : Int) := by omega
      have e : pickS s = pickTo s k := by unfold pickS; congr 1; omega
      have HE := Lib.hid e
      clear e
      go_wp2
      go_ret
      exact ⟨by rw [HE.out]; rfl, rfl⟩

/-! ### The document's names -/
theorem rin_any (x m : Int) (w : World) : Calls Try.prog 32 #[.int .i64 x, .int .i64 m] w fun e w' => e = .returned (.bool (decide (0 ≤ x) && decide (x ≤ m))) ∧ w' = w := by
  cases h1 : decide (0 ≤ x) with
  | false =>
    go_enter Try.func32, Try.ntmps32
    go_wp2
    go_ret
    exact ⟨rfl, rfl⟩
  | true =>
    go_enter Try.func32, Try.ntmps32
    go_wp2
    go_ret
    exact ⟨rfl, rfl⟩

theorem plain_cases (z : Int) : (Sr.plain z = true ∧ 97 ≤ z ∧ z ≤ 122) ∨ (Sr.plain z = true ∧ z < 97 ∧ 48 ≤ z ∧ z ≤ 57) ∨ (Sr.plain z = true ∧ z < 48 ∧ z = 45) ∨ (Sr.plain z = false ∧ 122 < z ∧ z ≠ 45) ∨ (Sr.plain z = false ∧ 57 < z ∧ z < 97 ∧ z ≠ 45) ∨ (Sr.plain z = false ∧ z < 48 ∧ z ≠ 45) := by
  unfold Sr.plain
  simp only [Bool.or_eq_true, Bool.and_eq_true, decide_eq_true_eq, beq_iff_eq, Bool.or_eq_false_iff, Bool.and_eq_false_iff, decide_eq_false_iff_not, beq_eq_false_iff_ne]
  omega

theorem byte_at {s : ByteArray} {k : Nat} (hk : k < s.size) : ∃ b : UInt8, s.data.toList[k]? = some b ∧ By.at_ s.data.toList k = (b.toNat : Int) := by
  have hl : k < s.data.toList.length := by rw [By.size_list]; exact hk
  exact ⟨_, List.getElem?_eq_getElem hl, By.at_some (List.getElem?_eq_getElem hl)⟩

end Go.Proofs.Ytdmpnkhgcggepaa.Py
