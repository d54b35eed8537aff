/- May a leaf be laid, and which flags it has: the landed calls, and the document's. -/
import Derived.Test.YtbicdmhmpmdoeaaLfA
namespace Go.Proofs.Ytbicdmhmpmdoeaa.Lf
open Go.ChangeShapes Go.WideShapes Go.ChangeAt Go.RowKit
open Qu (Blk)
open By (Bys cellsB cellsB_length cellsB_at)
open Dk (Sec secCells secCells_size secCells_at)
set_option linter.unusedVariables false

/-- What is asked of a leaf, in the walk's forms. -/
theorem right_cases (e n m : Nat) (f l : Bool) (d : List UInt8) (hd : d.length = m) :
    (rightB ⟨e, n, f, l, d⟩ = true ∧ e ≠ 0 ∧ 1 ≤ m ∧ m ≤ 46 ∧ (l = true ∨ m = 46)) ∨ (rightB ⟨e, n, f, l, d⟩ = false ∧ (e = 0 ∨ (e ≠ 0 ∧ m = 0) ∨ (e ≠ 0 ∧ 1 ≤ m ∧ 46 < m) ∨ (e ≠ 0 ∧ 1 ≤ m ∧ m < 46 ∧ l = false))) := by
  subst hd
  have h := right_iff ⟨e, n, f, l, d⟩
  cases hr : rightB ⟨e, n, f, l, d⟩ with
  | true => exact .inl ⟨rfl, h.1 hr⟩
  | false =>
    refine .inr ⟨rfl, ?_⟩
    rw [hr] at h
    have h2 : ¬ (e ≠ 0 ∧ 1 ≤ d.length ∧ d.length ≤ 46 ∧ (l = true ∨ d.length = 46)) := fun x => by simpa using h.2 x
    by_cases h0 : e = 0
    · exact .inl h0
    · by_cases h1 : d.length = 0
      · exact .inr (.inl ⟨h0, h1⟩)
      · by_cases h3 : 46 < d.length
        · exact .inr (.inr (.inl ⟨h0, by omega, h3⟩))
        · refine .inr (.inr (.inr ⟨h0, by omega, ?_, ?_⟩))
          · rcases Nat.lt_or_ge d.length 46 with h4 | h4
            · exact h4
            · exact absurd ⟨h0, by omega, by omega, .inr (by omega)⟩ h2
          · cases l with
            | false => rfl
            | true => exact absurd ⟨h0, by omega, by omega, .inl rfl⟩ h2

set_option maxHeartbeats 1000000 in
theorem right_any (w : World) (e n m c : Nat) (f l : Bool) (A : Option Addr) (d : List UInt8) (hd : d.length = m) :
    Calls Try.prog 22 #[.agg #[.int .u32 (e : Int), .int .u32 (n : Int), .bool f, .bool l, .slice A m c]] w fun en w' => en = .returned (.bool (rightB ⟨e, n, f, l, d⟩)) ∧ Below w.heap.size w w' := by
  rcases right_cases e n m f l d hd with ⟨hr, h0, h1, h2, h3⟩ | ⟨hr, h⟩
  · rw [hr]
    have q0 : ((e : Int) != 0) = true := bne_iff_ne.2 (by omega)
    have q1 : (1 : Int) ≤ (m : Int) := by omega
    have q2 : (m : Int) ≤ 46 := by omega
    clear hr hd d
    cases l with
    | true =>
      clear h3 h0 h1 h2
      go_enter Try.func22, Try.ntmps22
      go_wp2
      all_goals (go_ret; exact ⟨rfl, (Below.refl _ _).alloc (Nat.le_refl _) _⟩)
    | false =>
      obtain rfl : m = 46 := by simpa using h3
      clear h3 h0 h1 h2
      go_enter Try.func22, Try.ntmps22
      go_wp2
      all_goals (go_ret; exact ⟨rfl, (Below.refl _ _).alloc (Nat.le_refl _) _⟩)
  · rw [hr]
    clear hr hd d
    rcases h with rfl | ⟨h0, rfl⟩ | ⟨h0, h1, h2⟩ | ⟨h0, h1, h2, rfl⟩
    · go_enter Try.func22, Try.ntmps22
      go_wp2
      all_goals (go_ret; exact ⟨rfl, (Below.refl _ _).alloc (Nat.le_refl _) _⟩)
    · have q0 : ((e : Int) != 0) = true := bne_iff_ne.2 (by omega)
      clear h0
      go_enter Try.func22, Try.ntmps22
      go_wp2
      all_goals (go_ret; exact ⟨rfl, (Below.refl _ _).alloc (Nat.le_refl _) _⟩)
    · have q0 : ((e : Int) != 0) = true := bne_iff_ne.2 (by omega)
      have q1 : (1 : Int) ≤ (m : Int) := by omega
      have q2 : ¬ (m : Int) ≤ 46 := by omega
      clear h0 h1 h2
      go_enter Try.func22, Try.ntmps22
      go_wp2
      all_goals (go_ret; exact ⟨rfl, (Below.refl _ _).alloc (Nat.le_refl _) _⟩)
    · have q0 : ((e : Int) != 0) = true := bne_iff_ne.2 (by omega)
      have q1 : (1 : Int) ≤ (m : Int) := by omega
      have q2 : (m : Int) ≤ 46 := by omega
      have q3 : ((m : Int) == 46) = false := beq_eq_false_iff_ne.2 (by omega)
      clear h0 h1 h2
      go_enter Try.func22, Try.ntmps22
      go_wp2
      all_goals (go_ret; exact ⟨rfl, (Below.refl _ _).alloc (Nat.le_refl _) _⟩)

set_option maxHeartbeats 1000000 in
theorem rright_any (w : World) (e n m c : Nat) (f l : Bool) (A : Option Addr) (d : List UInt8) (hd : d.length = m) :
    Calls Try.prog 26 #[.agg #[.int .u32 (e : Int), .int .u32 (n : Int), .bool f, .bool l, .slice A m c]] w fun en w' => en = .returned (.bool (rightB ⟨e, n, f, l, d⟩)) ∧ Below w.heap.size w w' := by
  rcases right_cases e n m f l d hd with ⟨hr, h0, h1, h2, h3⟩ | ⟨hr, h⟩
  · rw [hr]
    have q0 : ((e : Int) != 0) = true := bne_iff_ne.2 (by omega)
    have q1 : (1 : Int) ≤ (m : Int) := by omega
    have q2 : (m : Int) ≤ 46 := by omega
    clear hr hd d
    cases l with
    | true =>
      clear h3 h0 h1 h2
      go_enter Try.func26, Try.ntmps26
      go_wp2
      all_goals (go_ret; exact ⟨rfl, (Below.refl _ _).alloc (Nat.le_refl _) _⟩)
    | false =>
      obtain rfl : m = 46 := by simpa using h3
      clear h3 h0 h1 h2
      go_enter Try.func26, Try.ntmps26
      go_wp2
      all_goals (go_ret; exact ⟨rfl, (Below.refl _ _).alloc (Nat.le_refl _) _⟩)
  · rw [hr]
    clear hr hd d
    rcases h with rfl | ⟨h0, rfl⟩ | ⟨h0, h1, h2⟩ | ⟨h0, h1, h2, rfl⟩
    · go_enter Try.func26, Try.ntmps26
      go_wp2
      all_goals (go_ret; exact ⟨rfl, (Below.refl _ _).alloc (Nat.le_refl _) _⟩)
    · have q0 : ((e : Int) != 0) = true := bne_iff_ne.2 (by omega)
      clear h0
      go_enter Try.func26, Try.ntmps26
      go_wp2
      all_goals (go_ret; exact ⟨rfl, (Below.refl _ _).alloc (Nat.le_refl _) _⟩)
    · have q0 : ((e : Int) != 0) = true := bne_iff_ne.2 (by omega)
      have q1 : (1 : Int) ≤ (m : Int) := by omega
      have q2 : ¬ (m : Int) ≤ 46 := by omega
      clear h0 h1 h2
      go_enter Try.func26, Try.ntmps26
      go_wp2
      all_goals (go_ret; exact ⟨rfl, (Below.refl _ _).alloc (Nat.le_refl _) _⟩)
    · have q0 : ((e : Int) != 0) = true := bne_iff_ne.2 (by omega)
      have q1 : (1 : Int) ≤ (m : Int) := by omega
      have q2 : (m : Int) ≤ 46 := by omega
      have q3 : ((m : Int) == 46) = false := beq_eq_false_iff_ne.2 (by omega)
      clear h0 h1 h2
      go_enter Try.func26, Try.ntmps26
      go_wp2
      all_goals (go_ret; exact ⟨rfl, (Below.refl _ _).alloc (Nat.le_refl _) _⟩)

theorem flags_any (w : World) (e n m c : Nat) (f l : Bool) (A : Option Addr) :
    Calls Try.prog 24 #[.agg #[.int .u32 (e : Int), .int .u32 (n : Int), .bool f, .bool l, .slice A m c]] w fun en w' => en = .returned (.int .u8 (flagsN f l : Int)) ∧ Below w.heap.size w w' := by
  have b1 : bits .or .u8 0 1 = 1 := by decide
  have b2 : bits .or .u8 1 2 = 3 := by decide
  have b3 : bits .or .u8 0 2 = 2 := by decide
  cases f <;> cases l <;>
    go_enter Try.func24, Try.ntmps24 <;>
    go_wp2 <;>
    go_ret <;>
    exact ⟨rfl, (Below.refl _ _).alloc (Nat.le_refl _) _⟩

end Go.Proofs.Ytbicdmhmpmdoeaa.Lf
