/- What Peek and Pop tell of any queue; queues that ranks are pushed into. -/
import Derived.Test.YtmggfeacjndflaaQuL
namespace Go.Proofs.Ytmggfeacjndflaa.Qu
open Go.ChangeShapes Go.WideShapes Go.ChangeAt Go.RowKit
set_option linter.unusedVariables false

def pk1 : List Pt → Int | [] => 0 | x :: _ => x.1
def pk2 : List Pt → Int | [] => 0 | x :: _ => x.2
def pkb : List Pt → Bool | [] => false | _ :: _ => true

theorem pkb_len (l : List Pt) : pkb l = decide (0 < l.length) := by cases l <;> simp [pkb]

theorem peek_any (B q : Nat) (r : Option Nat) (l : List Pt) (w : World) (h : IsQ w B q r l) (hn : l.length ≤ 1000000000) :
    Calls Try.prog 13 #[.pointer (some ⟨q, 0, none⟩)] w fun e w' => e = .returned (.tuple #[.int .i64 (pk1 l), .int .i64 (pk2 l), .bool (pkb l)]) ∧ IsQ w' B q r l ∧ Below w.heap.size w w' := by
  cases l with
  | nil => exact (peek_empty B q r w h).mono fun e w' ⟨he, hw⟩ => ⟨he, hw ▸ h, hw ▸ Below.refl _ _⟩
  | cons x l => exact (peek_some B q r x l w h (by simp at hn; omega)).mono fun e w' ⟨he, hw⟩ => ⟨he, h.below hw, hw⟩

theorem pop_any (B q : Nat) (r : Option Nat) (l : List Pt) (w : World) (h : IsQ w B q r l) (hn : l.length ≤ 1000000000) :
    Calls Try.prog 14 #[.pointer (some ⟨q, 0, none⟩)] w fun e w' => e = .returned (.tuple #[.int .i64 (pk1 l), .int .i64 (pk2 l), .bool (pkb l)]) ∧ QPopped w w' B q r l.tail := by
  cases l with
  | nil => exact (pop_empty B q r w h).mono fun e w' ⟨he, hw⟩ => ⟨he, hw ▸ h, hw ▸ Moved.refl _ _ _⟩
  | cons x l => exact pop_some B q r x l w h (by simp at hn; omega)

/-- An int of any number, modulo a small one, as the code has it. -/
theorem umod_in (a n : Int) (hn : 1 ≤ n) (hn1 : n ≤ 9223372036854775807) : ∃ t : Nat, wrap64 ((IntKind.u64.wrap a).tmod n) = (t : Int) ∧ (t : Int) < n ∧ (IntKind.u64.wrap a) % n = (t : Int) ∧ IntKind.u64.wrap ((IntKind.u64.wrap a).tmod n) = (t : Int) := by
  have h0 : 0 ≤ IntKind.u64.wrap a := by rw [IntKind.wrap_u64]; omega
  have h1 : (IntKind.u64.wrap a).tmod n = (IntKind.u64.wrap a) % n := Int.tmod_eq_emod_of_nonneg h0
  have h2 := Int.emod_nonneg (IntKind.u64.wrap a) (show n ≠ 0 by omega)
  have h3 := Int.emod_lt_of_pos (IntKind.u64.wrap a) (show 0 < n by omega)
  refine ⟨((IntKind.u64.wrap a) % n).toNat, ?_, ?_, ?_, ?_⟩
  · rw [h1, IntWalk.wrap64_in _ ⟨by omega, by omega⟩]; omega
  · omega
  · omega
  · rw [h1, IntKind.wrap_u64]; omega

end Go.Proofs.Ytmggfeacjndflaa.Qu
