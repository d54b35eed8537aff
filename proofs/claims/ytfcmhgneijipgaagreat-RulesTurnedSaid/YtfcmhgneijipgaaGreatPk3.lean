/- Contracts of the statements' plain things: Mod, Mod64, Sku, Category, pick; the document's Name and in. · The landed package goods: a contract a call. -/
import Derived.Deep.Quiet
import Derived.Deep.QuietTactic
import Derived.Laws.Concat
import Derived.Test.YtfcmhgneijipgaaGreatPk1
import Derived.Test.YtfcmhgneijipgaaGreatPk2

section
set_option maxRecDepth 100000
set_option linter.unusedVariables false
namespace Go.Proofs.YtfcmhgneijipgaaGreat.Py
open Go.ChangeShapes Go.WideShapes Go.ChangeAt Go.RowKit
def modN (a n : Int) : Nat := ((IntKind.u64.wrap a) % n).toNat
theorem modN_lt (a n : Int) (h : 1 ≤ n) : (modN a n : Int) < n := by
  unfold modN
  have h2 := Int.emod_nonneg (IntKind.u64.wrap a) (show n ≠ 0 by omega)
  have h3 := Int.emod_lt_of_pos (IntKind.u64.wrap a) (show 0 < n by omega)
  omega
theorem modN_of {a n : Int} (h0 : 0 ≤ a) (h1 : a < n) (h2 : n ≤ 9223372036854775807) : (modN a n : Int) = a := by
  unfold modN
  rw [IntKind.wrap_u64]
  have : a % 18446744073709551616 = a := Int.emod_eq_of_lt h0 (by omega)
  rw [this, Int.emod_eq_of_lt h0 h1]
  omega
theorem modN_num (k n : Nat) (h : k < n) (hn : n ≤ 9223372036854775807) : modN (k : Int) (n : Int) = k := by
  have := modN_of (a := (k : Int)) (n := (n : Int)) (by omega) (by omega) (by omega)
  omega
theorem mod_any (a n : Int) (w : World) (hn : 1 ≤ n) (hn1 : n ≤ 9223372036854775807) :
    Calls Tryz.prog 15 #[.int .i64 a, .int .i64 n] w fun e w' => e = .returned (.int .i64 (modN a n : Int)) ∧ w' = w := by
  obtain ⟨t, t1, t2, t3, t4⟩ := By.umod_in a n hn hn1
  have hw : IntKind.u64.wrap n = n := by rw [IntKind.wrap_u64]; omega
  have hm : modN a n = t := by unfold modN; omega
  have n0 : n ≠ 0 := by omega
  rw [hm]
  clear hm
  go_enter Tryz.func15, Tryz.ntmps15
  go_wp2
  go_ret
  exact ⟨congrArg (fun z => Ending.returned (.int .i64 z)) t1, rfl⟩
theorem mod64_any (a n : Int) (w : World) (hn : 1 ≤ n) (hn1 : n ≤ 9223372036854775807) :
    Calls Tryz.prog 29 #[.int .i64 a, .int .i64 n] w fun e w' => e = .returned (.int .i64 (modN a n : Int)) ∧ w' = w := by
  obtain ⟨t, t1, t2, t3, t4⟩ := By.umod_in a n hn hn1
  have hw : IntKind.u64.wrap n = n := by rw [IntKind.wrap_u64]; omega
  have hm : modN a n = t := by unfold modN; omega
  have n0 : n ≠ 0 := by omega
  rw [hm]
  clear hm
  go_enter Tryz.func29, Tryz.ntmps29
  go_wp2
  go_ret
  exact ⟨congrArg (fun z => Ending.returned (.int .i64 z)) t1, rfl⟩
def chr (c : Nat) : ByteArray := By.strOf [UInt8.ofNat c]
def skuS (k : Nat) : ByteArray := chr (97 + k)
def catS (k : Nat) : ByteArray := chr (120 + k)
theorem sku_any (a : Int) (w : World) : Calls Tryz.prog 64 #[.int .i64 a] w fun e w' => e = .returned (.string (skuS (modN a 8))) ∧ Below w.heap.size w w' := by
  have HM := Lib.hid (mod_any a 8 w (by omega) (by omega))
  have ht := modN_lt a 8 (by omega)
  generalize hk : modN a 8 = t at HM ht ⊢
  have hr := fun W => By.run_text (P := Tryz.prog) (c := 1) 63 9 5 Tryz.underlying63 Tryz.underlying5 Tryz.underlying9 (By.Bys.made W 5 (97 + (t : Int)) (by omega) (by omega))
  have e : (97 + (t : Int)).toNat = 97 + t := by omega
  rw [e] at hr
  have es : By.strOf [UInt8.ofNat (97 + t)] = skuS t := rfl
  simp only [es] at hr
  clear es
  clear hk
  go_enter Tryz.func64, Tryz.ntmps64
  go_wp2_with fail
  refine HM.out.mono ?_
  rintro e w1 ⟨rfl, rfl⟩
  go_wp2
  go_ret
  exact ⟨rfl, (Below.refl _ _).alloc (Nat.le_refl _) _⟩
theorem category_any (a : Int) (w : World) : Calls Tryz.prog 20 #[.int .i64 a] w fun e w' => e = .returned (.string (catS (modN a 3))) ∧ Below w.heap.size w w' := by
  have HM := Lib.hid (mod_any a 3 w (by omega) (by omega))
  have ht := modN_lt a 3 (by omega)
  generalize hk : modN a 3 = t at HM ht ⊢
  have hr := fun W => By.run_text (P := Tryz.prog) (c := 1) 63 9 5 Tryz.underlying63 Tryz.underlying5 Tryz.underlying9 (By.Bys.made W 5 (120 + (t : Int)) (by omega) (by omega))
  have e : (120 + (t : Int)).toNat = 120 + t := by omega
  rw [e] at hr
  have es : By.strOf [UInt8.ofNat (120 + t)] = catS t := rfl
  simp only [es] at hr
  clear es
  clear hk
  go_enter Tryz.func20, Tryz.ntmps20
  go_wp2_with fail
  refine HM.out.mono ?_
  rintro e w1 ⟨rfl, rfl⟩
  go_wp2
  go_ret
  exact ⟨rfl, (Below.refl _ _).alloc (Nat.le_refl _) _⟩
/-! ### The number that a text stands for -/
def pickTo (s : ByteArray) : Nat → Int
  | 0 => (s.size : Int)
  | k + 1 => wrap64 (wrap64 (7 * pickTo s k) + By.at_ s.data.toList k)
def pickS (s : ByteArray) : Int := pickTo s (min s.size 8)
theorem index_in {s : ByteArray} {k : Nat} (hk : k < s.size) : s[k]? = some (s.data.toList.getD k 0) := by
  rw [ByteArray.getElem?_lt' s k hk]
  congr 1
  have : k < s.data.toList.length := by rw [By.size_list]; exact hk
  rw [List.getD, List.getElem?_eq_getElem this]
  rfl
theorem run_at (t : TypeId) (ht : Tryz.prog.underlying t = some .string) (s : ByteArray) (k : Nat) (hk : k < s.size) (W : World) : (Instr.index t (.string s) (.int .i64 (k : Int))).run Tryz.prog W = .ok (.int .u8 (By.at_ s.data.toList k)) W := by
  have h := index_in hk
  have hk0 : (0 : Int) ≤ (k : Int) := by omega
  rw [run_index_string W t s .i64 (k : Int) ht]
  have e : (s.data.toList.getD k 0) = s[k] := by
    have := ByteArray.getElem?_lt' s k hk
    rw [h] at this
    exact Option.some.inj this
  unfold By.at_
  rw [e]
  simp [hk]
theorem pick_any (s : ByteArray) (w : World) (hs : s.size ≤ maxLen) : Calls Tryz.prog 65 #[.string s] w fun e w' => e = .returned (.int .i64 (pickS s)) ∧ w = w' := by
  unfold maxLen at hs
  have hA := fun k (hk : k < s.size) W => run_at 9 Tryz.underlying9 s k hk W
  have h0 : (s.size : Int) = pickTo s 0 := rfl
  have hp : ∀ k, pickTo s (k + 1) = wrap64 (wrap64 (7 * pickTo s k) + By.at_ s.data.toList k) := fun k => rfl
  have HP := Lib.hid hp
  have HA := Lib.hid hA
  have H0 := Lib.hid h0
  clear hA h0 hp
  go_enter Tryz.func65, Tryz.ntmps65
  go_wp2
  go_loopw [3, 4] (fun s3 s4 wr => ∃ k : Nat, s3 = .int .i64 (pickTo s k) ∧ s4 = .int .i64 k ∧ k ≤ s.size ∧ k ≤ 8 ∧ wr = w) (fun _ s4 _ => 8 - (intOf s4).toNat)
  case atStart => exact ⟨0, by rw [← H0.out], rfl, by omega, by omega, by trivial⟩
  case round =>
    obtain ⟨k, rfl, rfl, hk, hk8, rfl⟩ := hrel
    by_cases h1 : k < s.size
    · have k1 : (k : Int) < (s.size : Int) := by omega
      by_cases h2 : k < 8
      · have k2 : (k : Int) < 8 := by omega
        have hi := HA.out k h1 wr
        have e := HP.out k
        have hb := By.at_in s.data.toList k
        generalize By.at_ s.data.toList k = b at hi e hb
        generalize hq : pickTo s k = q at e ⊢
        clear hq
        go_wp2
        go_roundw
        case rel => exact ⟨k + 1, by rw [e], by go_num, by omega, by omega, by trivial⟩
        case measure => simp [intOf]; omega
      · have k2 : ¬ (k : Int) < 8 := by omega
        have e : pickS s = pickTo s k := by unfold pickS; congr 1; omega
        have HE := Lib.hid e
        clear e
        go_wp2
        go_ret
        exact ⟨by rw [HE.out]; rfl, rfl⟩
    · have k1 : ¬ (k : Int) < (s.size : Int) := by omega
      have e : pickS s = pickTo s k := by unfold pickS; congr 1; omega
      have HE := Lib.hid e
      clear e
      go_wp2
      go_ret
      exact ⟨by rw [HE.out]; rfl, rfl⟩
/-! ### The document's names -/
theorem rin_any (x m : Int) (w : World) : Calls Tryz.prog 37 #[.int .i64 x, .int .i64 m] w fun e w' => e = .returned (.bool (decide (0 ≤ x) && decide (x ≤ m))) ∧ w' = w := by
  cases h1 : decide (0 ≤ x) with
  | false =>
    go_enter Tryz.func37, Tryz.ntmps37
    go_wp2
    go_ret
    exact ⟨rfl, rfl⟩
  | true =>
    go_enter Tryz.func37, Tryz.ntmps37
    go_wp2
    go_ret
    exact ⟨rfl, rfl⟩
theorem plain_cases (z : Int) : (Sr.plain z = true ∧ 97 ≤ z ∧ z ≤ 122) ∨ (Sr.plain z = true ∧ z < 97 ∧ 48 ≤ z ∧ z ≤ 57) ∨ (Sr.plain z = true ∧ z < 48 ∧ z = 45) ∨ (Sr.plain z = false ∧ 122 < z ∧ z ≠ 45) ∨ (Sr.plain z = false ∧ 57 < z ∧ z < 97 ∧ z ≠ 45) ∨ (Sr.plain z = false ∧ z < 48 ∧ z ≠ 45) := by
  unfold Sr.plain
  simp only [Bool.or_eq_true, Bool.and_eq_true, decide_eq_true_eq, beq_iff_eq, Bool.or_eq_false_iff, Bool.and_eq_false_iff, decide_eq_false_iff_not, beq_eq_false_iff_ne]
  omega
theorem byte_at {s : ByteArray} {k : Nat} (hk : k < s.size) : ∃ b : UInt8, s.data.toList[k]? = some b ∧ By.at_ s.data.toList k = (b.toNat : Int) := by
  have hl : k < s.data.toList.length := by rw [By.size_list]; exact hk
  exact ⟨_, List.getElem?_eq_getElem hl, By.at_some (List.getElem?_eq_getElem hl)⟩
set_option maxHeartbeats 1000000 in
theorem rname_any (s : ByteArray) (w : World) (hs : s.size ≤ maxLen) : Calls Tryz.prog 44 #[.string s] w fun e w' => e = .returned (.bool (Sr.name s)) ∧ w' = w := by
  unfold maxLen at hs
  have hA := fun k (hk : k < s.size) W => run_at 9 Tryz.underlying9 s k hk W
  have HA := Lib.hid hA
  clear hA
  go_enter Tryz.func44, Tryz.ntmps44
  go_wp2
  go_loopw [3] (fun s3 wr => ∃ k : Nat, s3 = .int .i64 k ∧ k ≤ s.size ∧ wr = w ∧ ∀ (j : Nat) (b : UInt8), j < k → s.data.toList[j]? = some b → Sr.plain (b.toNat : Int) = true) (fun s3 _ => s.size - (intOf s3).toNat)
  case atStart => exact ⟨0, rfl, by omega, rfl, fun j b hj => by omega⟩
  case round =>
    obtain ⟨k, rfl, hk, rfl, hE⟩ := hrel
    have HE := Lib.hid hE
    clear hE
    by_cases h1 : k < s.size
    · have k1 : (k : Int) < (s.size : Int) := by omega
      have hi := HA.out k h1 wr
      obtain ⟨b, hb1, hb2⟩ := byte_at h1
      rw [hb2] at hi
      have HB := Lib.hid hb1
      have hbn := By.at_in s.data.toList k
      rw [hb2] at hbn
      clear hb1 hb2
      obtain ⟨z, hz⟩ : ∃ z : Int, (b.toNat : Int) = z := ⟨_, rfl⟩
      have HZ := Lib.hid hz
      rw [hz] at hi hbn
      clear hz
      obtain ⟨hp, c1, c2⟩ | ⟨hp, c1, c2, c3⟩ | ⟨hp, c1, c2⟩ | ⟨hp, c1, c2⟩ | ⟨hp, c1, c2, c3⟩ | ⟨hp, c1, c2⟩ := plain_cases z
      · have HP := Lib.hid hp
        clear hp
        go_wp2
        go_roundw
        case rel => exact ⟨k + 1, by go_num, by omega, by trivial, fun j b' hj hb' => by
          rcases Nat.lt_or_ge j k with h | h
          · exact HE.out j b' h hb'
          · obtain rfl : j = k := by omega
            rw [HB.out] at hb'
            injection hb' with hb'
            subst hb'
            rw [HZ.out]; exact HP.out⟩
        case measure => simp [intOf]; omega
      · have HP := Lib.hid hp
        have d1 : ¬ (97 : Int) ≤ z := by omega
        clear hp
        go_wp2
        go_roundw
        case rel => exact ⟨k + 1, by go_num, by omega, by trivial, fun j b' hj hb' => by
          rcases Nat.lt_or_ge j k with h | h
          · exact HE.out j b' h hb'
          · obtain rfl : j = k := by omega
            rw [HB.out] at hb'
            injection hb' with hb'
            subst hb'
            rw [HZ.out]; exact HP.out⟩
        case measure => simp [intOf]; omega
      · have HP := Lib.hid hp
        have d1 : ¬ (97 : Int) ≤ z := by omega
        have d2 : ¬ (48 : Int) ≤ z := by omega
        clear hp
        go_wp2
        go_roundw
        case rel => exact ⟨k + 1, by go_num, by omega, by trivial, fun j b' hj hb' => by
          rcases Nat.lt_or_ge j k with h | h
          · exact HE.out j b' h hb'
          · obtain rfl : j = k := by omega
            rw [HB.out] at hb'
            injection hb' with hb'
            subst hb'
            rw [HZ.out]; exact HP.out⟩
        case measure => simp [intOf]; omega
      · have HF := Lib.hid (Sr.name_bad HB.out (by rw [HZ.out]; exact hp))
        have d0 : (z == 45) = false := beq_eq_false_iff_ne.2 (by omega)
        have d1 : (97 : Int) ≤ z := by omega
        have d2 : ¬ z ≤ (122 : Int) := by omega
        have d3 : (48 : Int) ≤ z := by omega
        have d4 : ¬ z ≤ (57 : Int) := by omega
        clear hp
        go_wp2
        go_ret
        exact ⟨by rw [HF.out]; rfl, rfl⟩
      · have HF := Lib.hid (Sr.name_bad HB.out (by rw [HZ.out]; exact hp))
        have d0 : (z == 45) = false := beq_eq_false_iff_ne.2 (by omega)
        have d1 : ¬ (97 : Int) ≤ z := by omega
        have d3 : (48 : Int) ≤ z := by omega
        have d4 : ¬ z ≤ (57 : Int) := by omega
        clear hp
        go_wp2
        go_ret
        exact ⟨by rw [HF.out]; rfl, rfl⟩
      · have HF := Lib.hid (Sr.name_bad HB.out (by rw [HZ.out]; exact hp))
        have d0 : (z == 45) = false := beq_eq_false_iff_ne.2 (by omega)
        have d1 : ¬ (97 : Int) ≤ z := by omega
        have d3 : ¬ (48 : Int) ≤ z := by omega
        clear hp
        go_wp2
        go_ret
        exact ⟨by rw [HF.out]; rfl, rfl⟩
    · have k1 : ¬ (k : Int) < (s.size : Int) := by omega
      have HF : Hid (Sr.name s = (decide (1 ≤ s.size) && decide (s.size ≤ 12))) := Lib.hid (Sr.name_size fun j b hj => HE.out j b (by
        have := (List.getElem?_eq_some_iff.1 hj).1
        rw [By.size_list] at this
        omega) hj)
      by_cases c1 : 1 ≤ s.size
      · have c2 : (1 : Int) ≤ (s.size : Int) := by omega
        have c3 : decide ((s.size : Int) ≤ 12) = decide (s.size ≤ 12) := by congr 1; simp; omega
        have HG : Hid (Sr.name s = decide (s.size ≤ 12)) := Lib.hid (by rw [HF.out]; simp [c1])
        obtain ⟨b, hb⟩ : ∃ b, decide (s.size ≤ 12) = b := ⟨_, rfl⟩
        rw [hb] at c3
        have HB := Lib.hid hb
        clear hb
        go_wp2
        go_ret
        exact ⟨by rw [HG.out, HB.out]; first | rfl | (simp [c3]), rfl⟩
      · have c2 : ¬ (1 : Int) ≤ (s.size : Int) := by omega
        have HG : Hid (Sr.name s = false) := Lib.hid (by rw [HF.out]; simp [c1])
        go_wp2
        go_ret
        exact ⟨by rw [HG.out]; rfl, rfl⟩
end Go.Proofs.YtfcmhgneijipgaaGreat.Py

end

section
set_option maxRecDepth 100000
set_option linter.unusedVariables false
namespace Go.Proofs.YtfcmhgneijipgaaGreat.Gd
open Go.ChangeShapes Go.WideShapes Go.ChangeAt Go.RowKit
open It (Itm kItem row_item row_ok)
open Kd (Row Fit)
theorem plain_any (z : Int) (w : World) (h0 : 0 ≤ z) (h1 : z ≤ 255) : Calls Tryz.prog 133 #[.int .u8 z] w fun e w' => e = .returned (.bool (Sr.plain z)) ∧ w' = w := by
  obtain ⟨hp, c1, c2⟩ | ⟨hp, c1, c2, c3⟩ | ⟨hp, c1, c2⟩ | ⟨hp, c1, d0⟩ | ⟨hp, c1, c2, d0⟩ | ⟨hp, c1, d0⟩ := Py.plain_cases z
  · rw [hp]; clear hp
    go_enter Tryz.func133, Tryz.ntmps133
    go_wp2
    go_ret
    exact ⟨rfl, rfl⟩
  · rw [hp]; clear hp
    have d1 : ¬ (97 : Int) ≤ z := by omega
    go_enter Tryz.func133, Tryz.ntmps133
    go_wp2
    go_ret
    exact ⟨rfl, rfl⟩
  · rw [hp]; clear hp
    subst c2
    go_enter Tryz.func133, Tryz.ntmps133
    go_wp2
    go_ret
    exact ⟨rfl, rfl⟩
  · rw [hp]; clear hp
    have d1 : (97 : Int) ≤ z := by omega
    have d2 : ¬ z ≤ (122 : Int) := by omega
    have d3 : (48 : Int) ≤ z := by omega
    have d4 : ¬ z ≤ (57 : Int) := by omega
    have d5 : (z == 45) = false := beq_eq_false_iff_ne.2 d0
    go_enter Tryz.func133, Tryz.ntmps133
    go_wp2
    go_ret
    exact ⟨rfl, rfl⟩
  · rw [hp]; clear hp
    have d1 : ¬ (97 : Int) ≤ z := by omega
    have d3 : (48 : Int) ≤ z := by omega
    have d4 : ¬ z ≤ (57 : Int) := by omega
    have d5 : (z == 45) = false := beq_eq_false_iff_ne.2 (by omega)
    go_enter Tryz.func133, Tryz.ntmps133
    go_wp2
    go_ret
    exact ⟨rfl, rfl⟩
  · rw [hp]; clear hp
    have d1 : ¬ (97 : Int) ≤ z := by omega
    have d3 : ¬ (48 : Int) ≤ z := by omega
    have d5 : (z == 45) = false := beq_eq_false_iff_ne.2 d0
    go_enter Tryz.func133, Tryz.ntmps133
    go_wp2
    go_ret
    exact ⟨rfl, rfl⟩
set_option maxHeartbeats 1000000 in
theorem name_any (s : ByteArray) (w : World) (hs : s.size ≤ maxLen) : Calls Tryz.prog 76 #[.string s] w fun e w' => e = .returned (.bool (Sr.name s)) ∧ w' = w := by
  unfold maxLen at hs
  by_cases c1 : s.size < 1
  · have d1 : (s.size : Int) < 1 := by omega
    have HF := Lib.hid (Sr.name_none c1)
    clear c1
    go_enter Tryz.func76, Tryz.ntmps76
    go_wp2
    go_ret
    exact ⟨by rw [HF.out]; rfl, rfl⟩
  by_cases c2 : 12 < s.size
  · have d1 : ¬ (s.size : Int) < 1 := by omega
    have d2 : (12 : Int) < (s.size : Int) := by omega
    have HF := Lib.hid (Sr.name_long c2)
    clear c1 c2
    go_enter Tryz.func76, Tryz.ntmps76
    go_wp2
    go_ret
    exact ⟨by rw [HF.out]; rfl, rfl⟩
  have d1 : ¬ (s.size : Int) < 1 := by omega
  have d2 : ¬ (12 : Int) < (s.size : Int) := by omega
  have hA := fun k (hk : k < s.size) W => Py.run_at 9 Tryz.underlying9 s k hk W
  have HA := Lib.hid hA
  clear hA
  go_enter Tryz.func76, Tryz.ntmps76
  go_wp2
  go_loopw [14] (fun s3 wr => ∃ k : Nat, s3 = .int .i64 k ∧ k ≤ s.size ∧ wr = w ∧ ∀ (j : Nat) (b : UInt8), j < k → s.data.toList[j]? = some b → Sr.plain (b.toNat : Int) = true) (fun s3 _ => s.size - (intOf s3).toNat)
  case atStart => exact ⟨0, rfl, by omega, rfl, fun j b hj => by omega⟩
  case round =>
    obtain ⟨k, rfl, hk, rfl, hE⟩ := hrel
    have HE := Lib.hid hE
    clear hE
    by_cases h1 : k < s.size
    · have k1 : (k : Int) < (s.size : Int) := by omega
      have hi := HA.out k h1 wr
      obtain ⟨b, hb1, hb2⟩ := Py.byte_at h1
      rw [hb2] at hi
      have HB := Lib.hid hb1
      have hbn := By.at_in s.data.toList k
      rw [hb2] at hbn
      clear hb1 hb2
      obtain ⟨z, hz⟩ : ∃ z : Int, (b.toNat : Int) = z := ⟨_, rfl⟩
      have HZ := Lib.hid hz
      rw [hz] at hi hbn
      clear hz
      have HC := Lib.hid (plain_any z wr hbn.1 hbn.2)
      cases hp : Sr.plain z with
      | true =>
        rw [hp] at HC
        have HP := Lib.hid hp
        clear hp
        go_wp2_with fail
        refine HC.out.mono ?_
        rintro e w1 ⟨rfl, rfl⟩
        go_wp2
        go_roundw
        case rel => exact ⟨k + 1, by go_num, by omega, by trivial, fun j b' hj hb' => by
          rcases Nat.lt_or_ge j k with h | h
          · exact HE.out j b' h hb'
          · obtain rfl : j = k := by omega
            rw [HB.out] at hb'
            injection hb' with hb'
            subst hb'
            rw [HZ.out]; exact HP.out⟩
        case measure => simp [intOf]; omega
      | false =>
        rw [hp] at HC
        have HF := Lib.hid (Sr.name_bad HB.out (by rw [HZ.out]; exact hp))
        clear hp
        go_wp2_with fail
        refine HC.out.mono ?_
        rintro e w1 ⟨rfl, rfl⟩
        go_wp2
        go_ret
        exact ⟨by rw [HF.out]; rfl, rfl⟩
    · have k1 : ¬ (k : Int) < (s.size : Int) := by omega
      have HF : Hid (Sr.name s = true) := Lib.hid (by
        rw [Sr.name_size fun j b hj => HE.out j b (by
          have := (List.getElem?_eq_some_iff.1 hj).1
          rw [By.size_list] at this
          omega) hj]
        simp
        omega)
      go_wp2
      go_ret
      exact ⟨by rw [HF.out]; rfl, rfl⟩
theorem wrong_any (x : Itm) (w : World) (hx : x.ok) : Calls Tryz.prog 69 #[.agg #[.string x.sku, .string x.cat, .int .i64 x.price, .bool x.fin]] w fun e w' => e = .returned (.bool (!itemB x)) ∧ Below w.heap.size w w' := by
  have H1 := Lib.hid fun W => name_any x.sku W hx.sku
  have H2 := Lib.hid fun W => name_any x.cat W hx.cat
  have hd : itemB x = (Sr.name x.sku && Sr.name x.cat && (decide (0 ≤ x.price) && decide (x.price ≤ 1000000000))) := rfl
  obtain ⟨sku, cat, price, fin⟩ := x
  simp only at H1 H2 hd ⊢
  have HB : Hid (∀ o, Below w.heap.size w (w.alloc o)) := Lib.hid fun o => (Below.refl _ _).alloc (Nat.le_refl _) _
  cases n1 : Sr.name sku with
  | false =>
    have HD : Hid (itemB ⟨sku, cat, price, fin⟩ = false) := Lib.hid (by rw [hd, n1]; rfl)
    rw [n1] at H1
    clear hd hx n1
    go_enter Tryz.func69, Tryz.ntmps69
    go_wp2_with fail
    refine (H1.out _).mono ?_
    rintro e w1 ⟨rfl, rfl⟩
    go_wp2
    go_ret
    exact ⟨by rw [HD.out]; rfl, HB.out _⟩
  | true =>
    rw [n1] at H1
    cases n2 : Sr.name cat with
    | false =>
      have HD : Hid (itemB ⟨sku, cat, price, fin⟩ = false) := Lib.hid (by rw [hd, n1, n2]; rfl)
      rw [n2] at H2
      clear hd hx n1 n2
      go_enter Tryz.func69, Tryz.ntmps69
      go_wp2_with fail
      refine (H1.out _).mono ?_
      rintro e w1 ⟨rfl, rfl⟩
      go_wp2_with fail
      refine (H2.out _).mono ?_
      rintro e w1 ⟨rfl, rfl⟩
      go_wp2
      go_ret
      exact ⟨by rw [HD.out]; rfl, HB.out _⟩
    | true =>
      rw [n2] at H2
      by_cases c1 : price < 0
      · have HD : Hid (itemB ⟨sku, cat, price, fin⟩ = false) := Lib.hid (by rw [hd, n1, n2]; simp; omega)
        clear hd hx n1 n2
        go_enter Tryz.func69, Tryz.ntmps69
        go_wp2_with fail
        refine (H1.out _).mono ?_
        rintro e w1 ⟨rfl, rfl⟩
        go_wp2_with fail
        refine (H2.out _).mono ?_
        rintro e w1 ⟨rfl, rfl⟩
        go_wp2
        go_ret
        exact ⟨by rw [HD.out]; rfl, HB.out _⟩
      · by_cases c2 : 1000000000 < price
        · have HD : Hid (itemB ⟨sku, cat, price, fin⟩ = false) := Lib.hid (by rw [hd, n1, n2]; simp; omega)
          clear hd hx n1 n2
          go_enter Tryz.func69, Tryz.ntmps69
          go_wp2_with fail
          refine (H1.out _).mono ?_
          rintro e w1 ⟨rfl, rfl⟩
          go_wp2_with fail
          refine (H2.out _).mono ?_
          rintro e w1 ⟨rfl, rfl⟩
          go_wp2
          go_ret
          exact ⟨by rw [HD.out]; rfl, HB.out _⟩
        · have HD : Hid (itemB ⟨sku, cat, price, fin⟩ = true) := Lib.hid (by rw [hd, n1, n2]; simp; omega)
          have e1 : decide (price < 0) = false := decide_eq_false c1
          have e2 : decide (1000000000 < price) = false := decide_eq_false c2
          clear hd hx n1 n2
          go_enter Tryz.func69, Tryz.ntmps69
          go_wp2_with fail
          refine (H1.out _).mono ?_
          rintro e w1 ⟨rfl, rfl⟩
          go_wp2_with fail
          refine (H2.out _).mono ?_
          rintro e w1 ⟨rfl, rfl⟩
          go_wp2
          go_ret
          exact ⟨by rw [HD.out]; rfl, HB.out _⟩
/-! ### What rises -/
structure Rose (xs : List Itm) (r : Nat) : Prop where
  le : r ≤ xs.length
  some_ : 0 < xs.length → 0 < r
  rise : Rise (xs.take r)
  stop : ∀ x y, 0 < r → xs[r - 1]? = some x → xs[r]? = some y → Sr.lt x.sku y.sku = false
theorem Rose.all {xs : List Itm} {r : Nat} (h : Rose xs r) : r = xs.length ↔ Rise xs := by
  constructor
  · rintro rfl
    have := h.rise
    rw [List.take_length] at this
    exact this
  · intro hr
    rcases Nat.lt_or_ge r xs.length with h1 | h1
    · have h0 := h.some_ (by omega)
      obtain ⟨x, hx⟩ : ∃ x, xs[r - 1]? = some x := ⟨_, List.getElem?_eq_getElem (by omega)⟩
      obtain ⟨y, hy⟩ : ∃ y, xs[r]? = some y := ⟨_, List.getElem?_eq_getElem h1⟩
      have e := h.stop x y h0 hx hy
      rw [hr (r - 1) x y hx (by rw [show r - 1 + 1 = r by omega]; exact hy)] at e
      cases e
    · have := h.le
      omega
theorem rise_more {xs : List Itm} {k : Nat} (h : Rise (xs.take k)) (hk : ∀ x y, 0 < k → xs[k - 1]? = some x → xs[k]? = some y → Sr.lt x.sku y.sku = true) : Rise (xs.take (k + 1)) := fun i x y hx hy => by
  rw [List.getElem?_take] at hx hy
  split at hx
  · split at hy
    · rcases Nat.lt_or_ge (i + 1) k with h1 | h1
      · exact h i x y (by rw [List.getElem?_take, if_pos (by omega)]; exact hx) (by rw [List.getElem?_take, if_pos h1]; exact hy)
      · obtain rfl : k = i + 1 := by omega
        exact hk x y (by omega) hx hy
    · cases hy
  · cases hx
set_option maxHeartbeats 1000000 in
theorem rising_any (A : Option Addr) (n c : Nat) (xs : List Itm) (F : Nat → Prop) (w : World) (h : Row kItem w F A n xs) (hn : n ≤ 1000000000000) :
    Calls Tryz.prog 67 #[.slice A n c] w fun e w' => (∃ r : Nat, e = .returned (.int .i64 (r : Int)) ∧ Rose xs r) ∧ Hl.Drawn w w' := by
  have hlen := h.len
  have HH := Lib.hid h
  have HL := Lib.hid hlen
  clear h hlen
  go_enter Tryz.func67, Tryz.ntmps67
  go_wp2
  go_loopw [3] (fun s3 wr => ∃ k : Nat, s3 = .int .i64 k ∧ 1 ≤ k ∧ (k ≤ n ∨ (n = 0 ∧ k = 1)) ∧ Hl.Drawn w wr ∧ Rise (xs.take k)) (fun s3 _ => n - (intOf s3).toNat)
  case atStart => exact ⟨1, rfl, by omega, by omega, ⟨0, rfl⟩, fun i x y hx hy => by
    rw [List.getElem?_take] at hy
    split at hy
    · omega
    · cases hy⟩
  case round =>
    obtain ⟨k, rfl, hk1, hk2, hD, hR⟩ := hrel
    have HR := Lib.hid hR
    clear hR
    by_cases hlt : k < n
    · obtain ⟨x, hx⟩ := HH.out.get hlt
      obtain ⟨y, hy⟩ := HH.out.get (k := k - 1) (by omega)
      obtain ⟨g, o, rfl, _, _, _, a1, _⟩ := row_item HH.out hx
      obtain ⟨g', o', hA, _, _, _, b1, _⟩ := row_item HH.out hy
      injection hA with hA
      injection hA with hA1 hA2
      subst hA1 hA2
      have c1 : wr.cell? ⟨g, o + k * 4, none⟩ = some (.string x.sku) := by obtain ⟨d, rfl⟩ := hD; exact a1
      have c2 : wr.cell? ⟨g, o + (k - 1) * 4, none⟩ = some (.string y.sku) := by obtain ⟨d, rfl⟩ := hD; exact b1
      have HD := Lib.hid hD
      have HX := Lib.hid (And.intro hx hy)
      have k0 : (0 : Int) ≤ (k : Int) - 1 := by omega
      have k1 : (k : Int) < (n : Int) := by omega
      have k2 : (k : Int) - 1 < (n : Int) := by omega
      have k3 : ((k : Int) - 1).toNat = k - 1 := by omega
      have hle : ∀ W : World, (binOp .leq 9 (.string x.sku) (.string y.sku)).run Tryz.prog W = .ok (.bool (!Sr.lt y.sku x.sku)) W := fun W => by
        have e : binOp .leq 9 (.string x.sku) (.string y.sku) = pure (.bool (Op.bytesLess x.sku.toList y.sku.toList || x.sku.toList == y.sku.toList)) := by simp [binOp, Op.stringOp]
        rw [e, Sr.le_iff]
        rfl
      clear a1 b1 hD hx hy hlt
      obtain ⟨sx, hsx⟩ : ∃ s, x.sku = s := ⟨_, rfl⟩
      obtain ⟨sy, hsy⟩ : ∃ s, y.sku = s := ⟨_, rfl⟩
      simp only [hsx, hsy] at c1 c2 hle
      have HS := Lib.hid (And.intro hsx hsy)
      clear hsx hsy
      cases hB : Sr.lt sy sx with
      | true =>
        rw [hB] at hle
        have HB := Lib.hid hB
        clear hB
        go_wp2_with fail
        go_quiet (fail)
        go_wp2
        go_roundw
        case rel => exact ⟨k + 1, by go_num, by omega, by omega, HD.out.more _, rise_more HR.out fun x' y' _ hx' hy' => by
          rw [HX.out.2] at hx'
          rw [HX.out.1] at hy'
          injection hx' with hx'
          injection hy' with hy'
          subst hx' hy'
          rw [HS.out.1, HS.out.2]
          exact HB.out⟩
        case measure => simp [intOf]; omega
      | false =>
        rw [hB] at hle
        have HO : Hid (Rose xs k) := Lib.hid ⟨by rw [HL.out]; omega, fun _ => by omega, HR.out, fun x' y' _ hx' hy' => by
          rw [HX.out.2] at hx'
          rw [HX.out.1] at hy'
          injection hx' with hx'
          injection hy' with hy'
          subst hx' hy'
          rw [HS.out.1, HS.out.2]
          exact hB⟩
        clear hB
        go_wp2_with fail
        go_quiet (fail)
        go_wp2
        go_ret
        exact ⟨⟨k, rfl, HO.out⟩, HD.out.more _⟩
    · have k1 : ¬ (k : Int) < (n : Int) := by omega
      have HO : Hid (Rose xs n) := Lib.hid (by
        have hl := HL.out
        refine ⟨by omega, fun h0 => by omega, ?_, fun x y _ _ hy => ?_⟩
        · rcases hk2 with h2 | ⟨h2, h3⟩
          · obtain rfl : k = n := by omega
            exact HR.out
          · intro i x y hx hy
            rw [List.getElem?_take] at hy
            split at hy
            · omega
            · cases hy
        · have := (List.getElem?_eq_some_iff.1 hy).1
          omega)
      have HD := Lib.hid hD
      clear hD
      go_wp2
      go_ret
      exact ⟨⟨n, rfl, HO.out⟩, HD.out⟩
structure Kept (w wr : World) (F : Nat → Prop) (A : Option Addr) (n : Nat) (xs : List Itm) : Prop where
  row : Row kItem wr F A n xs
  below : Below w.heap.size w wr
theorem Kept.on {w wr w' : World} {F : Nat → Prop} {A : Option Addr} {n : Nat} {xs : List Itm} (h : Kept w wr F A n xs) (hF : ∀ b, F b → b < w.heap.size) (hb : Below wr.heap.size wr w') : Kept w w' F A n xs :=
  ⟨h.row.stay fun b hb2 => hb.block b (Nat.lt_of_lt_of_le (hF b hb2) h.below.size), Hk.andThen h.below hb⟩
set_option maxHeartbeats 1000000 in
theorem indexFunc_any (A : Option Addr) (n c : Nat) (xs : List Itm) (F : Nat → Prop) (w : World) (h : Row kItem w F A n xs) (hF : ∀ b, F b → b < w.heap.size) (hn : n ≤ 1000000000000) :
    Calls Tryz.prog 127 #[.slice A n c, .func (.func 69) #[] #[]] w fun e w' => (∃ r : Int, e = .returned (.int .i64 r) ∧ ((0 ≤ r ∧ ∃ (i : Nat) (x : Itm), xs[i]? = some x ∧ itemB x = false) ∨ (r = -1 ∧ ∀ (i : Nat) (x : Itm), xs[i]? = some x → itemB x = true))) ∧ Below w.heap.size w w' := by
  have HL := Lib.hid h.len
  have HK0 := Lib.hid (Kept.mk (w := w) h (Below.refl _ _))
  have HF := Lib.hid hF
  clear h hF
  go_enter Tryz.func127, Tryz.ntmps127
  go_wp2
  go_loopw [8] (fun s8 wr => ∃ k : Nat, s8 = .int .i64 k ∧ k ≤ n ∧ Kept w wr F A n xs ∧ ∀ (i : Nat) (x : Itm), i < k → xs[i]? = some x → itemB x = true) (fun s8 _ => n - (intOf s8).toNat)
  case atStart => exact ⟨0, rfl, by omega, HK0.out, fun i x hi => by omega⟩
  case round =>
    clear HK0
    obtain ⟨k, rfl, hk, hK, hE⟩ := hrel
    have HE := Lib.hid hE
    clear hE
    by_cases hlt : k < n
    · obtain ⟨x, hx⟩ := hK.row.get hlt
      obtain ⟨g, o, rfl, _, _, hok, c0, c1, c2, c3⟩ := row_item hK.row hx
      have k1 : (k : Int) < (n : Int) := by omega
      have k0 : (0 : Int) ≤ (k : Int) := by omega
      have HC := Lib.hid (fun W => wrong_any x W hok)
      have HK := Lib.hid hK
      have HX := Lib.hid hx
      clear hK hx hok
      cases hB : itemB x with
      | true =>
        rw [hB] at HC
        have HB := Lib.hid hB
        clear hB
        go_wp2_with fail
        refine (HC.out _).mono ?_
        rintro e w1 ⟨rfl, hb⟩
        have HK2 := Lib.hid (HK.out.on HF.out hb)
        clear hb
        go_wp2
        go_roundw
        case rel => exact ⟨k + 1, by go_num, by omega, HK2.out, fun i y hi hy => by
          rcases Nat.lt_or_ge i k with h1 | h1
          · exact HE.out i y h1 hy
          · obtain rfl : i = k := by omega
            rw [HX.out] at hy
            injection hy with hy
            subst hy
            exact HB.out⟩
        case measure => simp [intOf]; omega
      | false =>
        rw [hB] at HC
        have HB := Lib.hid hB
        clear hB
        go_wp2_with fail
        refine (HC.out _).mono ?_
        rintro e w1 ⟨rfl, hb⟩
        have HK2 := Lib.hid (HK.out.on HF.out hb)
        clear hb
        go_wp2
        go_ret
        exact ⟨⟨k, rfl, .inl ⟨by omega, k, x, HX.out, HB.out⟩⟩, HK2.out.below⟩
    · have k1 : ¬ (k : Int) < (n : Int) := by omega
      have HK := Lib.hid hK
      clear hK
      go_wp2
      go_ret
      exact ⟨⟨-1, rfl, .inr ⟨rfl, fun i x hx => HE.out i x (by
        have := (List.getElem?_eq_some_iff.1 hx).1
        have := HL.out
        omega) hx⟩⟩, HK.out.below⟩
theorem contains_any (A : Option Addr) (n c : Nat) (xs : List Itm) (F : Nat → Prop) (w : World) (h : Row kItem w F A n xs) (hF : ∀ b, F b → b < w.heap.size) (hn : n ≤ 1000000000000) :
    Calls Tryz.prog 68 #[.slice A n c, .func (.func 69) #[] #[]] w fun e w' => (∃ b : Bool, e = .returned (.bool b) ∧ (b = false ↔ ∀ (i : Nat) (x : Itm), xs[i]? = some x → itemB x = true)) ∧ Below w.heap.size w w' := by
  have HC := Lib.hid (indexFunc_any A n c xs F w h hF hn)
  clear h hF
  go_enter Tryz.func68, Tryz.ntmps68
  go_wp2_with fail
  refine HC.out.mono ?_
  rintro e w1 ⟨⟨r, rfl, hr⟩, hb⟩
  have HB := Lib.hid hb
  clear hb
  rcases hr with ⟨h0, i, x, hx, hi⟩ | ⟨rfl, hA⟩
  · have HX := Lib.hid (And.intro hx hi)
    clear hx hi
    go_wp2
    go_ret
    exact ⟨⟨true, rfl, by simp; exact ⟨i, x, HX.out.1, HX.out.2⟩⟩, HB.out⟩
  · have HX := Lib.hid hA
    clear hA
    go_wp2
    go_ret
    exact ⟨⟨false, rfl, by simp; exact HX.out⟩, HB.out⟩
theorem good_iff {xs : List Itm} {r : Nat} (hr : Rose xs r) (h5 : xs.length ≤ 500) {b : Bool} (hb : b = false ↔ ∀ (i : Nat) (x : Itm), xs[i]? = some x → itemB x = true) (e : r = xs.length) : goodB xs = !b := by
  cases b with
  | false => exact goodB_yes ⟨h5, hr.all.1 e, hb.1 rfl⟩
  | true => exact goodB_no fun h => by cases hb.2 h.each
theorem right_any (A : Option Addr) (n c : Nat) (xs : List Itm) (F : Nat → Prop) (w : World) (h : Row kItem w F A n xs) (hF : ∀ b, F b → b < w.heap.size) (hn : n ≤ 1000000000000) :
    Calls Tryz.prog 31 #[.slice A n c] w fun e w' => e = .returned (.bool (goodB xs)) ∧ Below w.heap.size w w' := by
  have HL := Lib.hid h.len
  by_cases h5 : n ≤ 500
  · have d5 : (n : Int) ≤ 500 := by omega
    have HR := Lib.hid (rising_any A n c xs F w h hn)
    have HC := Lib.hid (fun w1 (hD : Hl.Drawn w w1) => contains_any A n c xs F w1 (by obtain ⟨d, rfl⟩ := hD; exact h.drewN d) (by obtain ⟨d, rfl⟩ := hD; exact hF) hn)
    clear h hF
    go_enter Tryz.func31, Tryz.ntmps31
    go_wp2_with fail
    refine HR.out.mono ?_
    rintro e w1 ⟨⟨r, rfl, hr⟩, hD⟩
    have hle := hr.le
    have HRr := Lib.hid hr
    clear hr
    by_cases e : r = n
    · subst e
      go_wp2_with fail
      refine (HC.out _ hD).mono ?_
      rintro e w2 ⟨⟨b, rfl, hb⟩, hbl⟩
      have HG : Hid (goodB xs = !b ∧ Below w.heap.size w w2) := Lib.hid ⟨good_iff HRr.out (by rw [HL.out]; exact h5) hb HL.out.symm, by
        obtain ⟨d, rfl⟩ := hD
        exact Hk.andThen (Qu.below_draws (Below.refl _ _) d) hbl⟩
      clear hb hbl hD
      cases b with
      | false =>
        go_wp2
        go_ret
        exact ⟨by rw [HG.out.1]; rfl, HG.out.2⟩
      | true =>
        go_wp2
        go_ret
        exact ⟨by rw [HG.out.1]; rfl, HG.out.2⟩
    · have HG : Hid (goodB xs = false ∧ Below w.heap.size w w1) := Lib.hid ⟨goodB_no fun hg => e ((HRr.out.all.2 hg.rise).trans HL.out), hD.below _⟩
      have e1 : ((r : Int) == (n : Int)) = false := beq_eq_false_iff_ne.2 (by omega)
      clear hD
      go_wp2
      go_ret
      exact ⟨by rw [HG.out.1]; rfl, HG.out.2⟩
  · have d5 : ¬ (n : Int) ≤ 500 := by omega
    have HG : Hid (goodB xs = false) := Lib.hid (goodB_no fun hg => by have := hg.few; rw [HL.out] at this; omega)
    clear h hF
    go_enter Tryz.func31, Tryz.ntmps31
    go_wp2
    go_ret
    exact ⟨by rw [HG.out]; rfl, Below.refl _ _⟩
end Go.Proofs.YtfcmhgneijipgaaGreat.Gd

end
