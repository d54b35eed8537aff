/- Texts in order, byte by byte; names: plain mathematics, nothing of the program. -/
import Derived.Test.YtkpekdcglbaadaaKdA
import Derived.Lib.Bytealg
set_option maxRecDepth 100000

set_option linter.unusedVariables false
namespace Go.Proofs.Ytkpekdcglbaadaa.Sr
open Go.RowKit

/-- Byte by byte: is one below the other? -/
def lt (a b : ByteArray) : Bool := Op.bytesLess a.toList b.toList

theorem list_ext {a b : ByteArray} (h : a.toList = b.toList) : a = b := by
  rw [ByteArray.toList_eq, ByteArray.toList_eq] at h
  obtain ⟨⟨x⟩⟩ := a
  obtain ⟨⟨y⟩⟩ := b
  simpa using h

/-- Are they alike, as '==' has it? -/
def same (a b : ByteArray) : Bool := a.toList == b.toList

theorem same_iff {a b : ByteArray} : same a b = true ↔ a = b := by
  unfold same
  rw [beq_iff_eq]
  exact ⟨list_ext, fun h => by rw [h]⟩

theorem same_refl (a : ByteArray) : same a a = true := same_iff.2 rfl

theorem same_ne {a b : ByteArray} (h : a ≠ b) : same a b = false := by
  cases hb : same a b with
  | false => rfl
  | true => exact absurd (same_iff.1 hb) h

theorem less_irrefl : ∀ l : List UInt8, Op.bytesLess l l = false
  | [] => rfl
  | a :: l => by
    unfold Op.bytesLess
    rw [less_irrefl l]
    simp [UInt8.lt_irrefl]

theorem less_trans : ∀ (l m n : List UInt8), Op.bytesLess l m = true → Op.bytesLess m n = true → Op.bytesLess l n = true
  | l, m, [], h, k => by cases m <;> simp [Op.bytesLess] at k
  | [], m, c :: n, h, k => rfl
  | a :: l, [], c :: n, h, k => by simp [Op.bytesLess] at h
  | a :: l, b :: m, c :: n, h, k => by
    unfold Op.bytesLess at *
    simp only [Bool.or_eq_true, decide_eq_true_eq, Bool.and_eq_true, beq_iff_eq] at *
    rcases h with h | ⟨rfl, h⟩
    · rcases k with k | ⟨rfl, k⟩
      · exact .inl (UInt8.lt_trans h k)
      · exact .inl h
    · rcases k with k | ⟨rfl, k⟩
      · exact .inl k
      · exact .inr ⟨rfl, less_trans l m n h k⟩

theorem less_total : ∀ (l m : List UInt8), Op.bytesLess l m = true ∨ l = m ∨ Op.bytesLess m l = true
  | [], [] => .inr (.inl rfl)
  | [], b :: m => .inl rfl
  | a :: l, [] => .inr (.inr rfl)
  | a :: l, b :: m => by
    unfold Op.bytesLess
    simp only [Bool.or_eq_true, decide_eq_true_eq, Bool.and_eq_true, beq_iff_eq]
    by_cases h : a = b
    · subst h
      rcases less_total l m with h | h | h
      · exact .inl (.inr ⟨rfl, h⟩)
      · exact .inr (.inl (by rw [h]))
      · exact .inr (.inr (.inr ⟨rfl, h⟩))
    · by_cases h2 : a < b
      · exact .inl (.inl h2)
      · exact .inr (.inr (.inl (UInt8.lt_of_le_of_ne (UInt8.not_lt.1 h2) (Ne.symm h))))

theorem lt_irrefl (a : ByteArray) : lt a a = false := less_irrefl _

theorem lt_trans {a b c : ByteArray} (h : lt a b = true) (k : lt b c = true) : lt a c = true := less_trans _ _ _ h k

theorem lt_total (a b : ByteArray) : lt a b = true ∨ a = b ∨ lt b a = true := by
  rcases less_total a.toList b.toList with h | h | h
  · exact .inl h
  · exact .inr (.inl (list_ext h))
  · exact .inr (.inr h)

theorem lt_ne {a b : ByteArray} (h : lt a b = true) : a ≠ b := by
  rintro rfl
  rw [lt_irrefl] at h
  cases h

theorem lt_asymm {a b : ByteArray} (h : lt a b = true) : lt b a = false := by
  cases hb : lt b a with
  | false => rfl
  | true => rw [← lt_irrefl a]; exact (lt_trans h hb).symm ▸ rfl

/-- Not below, or alike: as '<=' has it. -/
theorem le_iff (a b : ByteArray) : (Op.bytesLess a.toList b.toList || a.toList == b.toList) = !lt b a := by
  show (lt a b || same a b) = _
  rcases lt_total a b with h | h | h
  · rw [h, lt_asymm h]; rfl
  · subst h
    rw [lt_irrefl, same_refl]; rfl
  · rw [h, lt_asymm h, Bool.false_or, same_ne (lt_ne h).symm]; rfl

theorem compare_less : ∀ (l m : List UInt8), Lib.compareBytes l m = if Op.bytesLess l m then -1 else if l == m then 0 else 1
  | [], [] => rfl
  | [], b :: m => rfl
  | a :: l, [] => rfl
  | a :: l, b :: m => by
    unfold Lib.compareBytes Op.bytesLess
    by_cases h : a < b
    · simp [h]
    · by_cases h2 : b < a
      · have : ¬ a = b := by rintro rfl; exact h h2
        simp [h, h2, this]
      · have : a = b := UInt8.le_antisymm (UInt8.not_lt.1 h2) (UInt8.not_lt.1 h)
        subst this
        rw [compare_less l m]
        simp [UInt8.lt_irrefl]

theorem compare_eq (a b : ByteArray) : Lib.compareBytes a.data.toList b.data.toList = if lt a b then -1 else if same a b then 0 else 1 := by
  rw [← ByteArray.toList_eq, ← ByteArray.toList_eq, compare_less]
  rfl

/-! ### Names -/
/-- May a byte stand in a name? -/
def plain (z : Int) : Bool := (decide (97 ≤ z) && decide (z ≤ 122)) || (decide (48 ≤ z) && decide (z ≤ 57)) || (z == 45)

def nameL (l : List UInt8) : Bool := (l.all fun b => plain (b.toNat : Int)) && decide (1 ≤ l.length) && decide (l.length ≤ 12)

/-- P10.1: is it a name? -/
def name (s : ByteArray) : Bool := nameL s.data.toList

theorem name_long {s : ByteArray} (h : 12 < s.size) : name s = false := by
  unfold name nameL
  rw [By.size_list]
  simp
  omega

theorem name_none {s : ByteArray} (h : s.size < 1) : name s = false := by
  unfold name nameL
  rw [By.size_list]
  simp
  omega

theorem name_bad {s : ByteArray} {k : Nat} {b : UInt8} (hk : s.data.toList[k]? = some b) (h : plain (b.toNat : Int) = false) : name s = false := by
  unfold name nameL
  have : (s.data.toList.all fun (b : UInt8) => plain (b.toNat : Int)) = false := List.all_eq_false.2 ⟨b, List.mem_of_getElem? hk, by rw [h]; simp⟩
  rw [this]; rfl

theorem name_size {s : ByteArray} (h : ∀ (k : Nat) (b : UInt8), s.data.toList[k]? = some b → plain (b.toNat : Int) = true) : name s = (decide (1 ≤ s.size) && decide (s.size ≤ 12)) := by
  unfold name nameL
  rw [By.size_list]
  have : (s.data.toList.all fun (b : UInt8) => plain (b.toNat : Int)) = true := List.all_eq_true.2 fun b hb => by
    obtain ⟨k, hk⟩ := List.mem_iff_getElem?.1 hb
    exact h k b hk
  rw [this, Bool.true_and]

theorem name_le {s : ByteArray} (h : name s = true) : 1 ≤ s.size ∧ s.size ≤ 12 := by
  unfold name nameL at h
  rw [By.size_list] at h
  simp only [Bool.and_eq_true, decide_eq_true_eq] at h
  omega

end Go.Proofs.Ytkpekdcglbaadaa.Sr
