/- Lists of numbers in memory. -/
import Derived.Test.YtbicdmhmpmdoeaaRows
import Derived.Test.YtbicdmhmpmdoeaaKit
import Derived.Test.YtbicdmhmpmdoeaaQuW
import Derived.WalkKit
import Derived.ProofKit
import Derived.OpenShut
import Derived.Lib.Hide
import Derived.BigQuiet
import Derived.Deep.QuietTactic
import Derived.LoopTactic
namespace Go.Proofs.Ytbicdmhmpmdoeaa.Hl
open Go.ChangeShapes Go.WideShapes Go.ChangeAt Go.RowKit
set_option linter.unusedVariables false

/-- A slice of n numbers, below block M. -/
def Ints (w : World) (M : Nat) (A : Option Addr) (n : Nat) (f : Nat → Int) : Prop := ∀ k, k < n → ∃ b off, A = some ⟨b, off, none⟩ ∧ b < M ∧ w.cell? ⟨b, off + k, none⟩ = some (.int .i64 (f k))

theorem Ints.below {w w' : World} {M B n : Nat} {A : Option Addr} {f : Nat → Int} (h : Ints w M A n f) (hb : Below B w w') (hM : M ≤ B) : Ints w' M A n f := fun k hk => by
  obtain ⟨b, off, hA, hb1, hc⟩ := h k hk
  exact ⟨b, off, hA, hb1, (hb.cell (p := ⟨b, off + k, none⟩) (by show b < B; omega)).trans hc⟩

theorem Ints.more {w : World} {M M' n : Nat} {A : Option Addr} {f : Nat → Int} (h : Ints w M A n f) (hM : M ≤ M') : Ints w M' A n f := fun k hk => by
  obtain ⟨b, off, hA, hb1, hc⟩ := h k hk
  exact ⟨b, off, hA, by omega, hc⟩

theorem Ints.size {w : World} {M n : Nat} {A : Option Addr} {f : Nat → Int} (h : Ints w M A n f) : Ints w w.heap.size A n f := fun k hk => by
  obtain ⟨b, off, hA, hb1, hc⟩ := h k hk
  exact ⟨b, off, hA, World.block_lt_of_cell? w _ hc, hc⟩

theorem Ints.drewN {w : World} {M n : Nat} {A : Option Addr} {f : Nat → Int} (h : Ints w M A n f) (d : Nat) : Ints (w.drewN d) M A n f := h

theorem Ints.less {w : World} {M n m : Nat} {A : Option Addr} {f : Nat → Int} (h : Ints w M A n f) (hm : m ≤ n) : Ints w M A m f := fun k hk => h k (by omega)

theorem Ints.congr {w : World} {M n : Nat} {A : Option Addr} {f g : Nat → Int} (h : Ints w M A n f) (hfg : ∀ k, k < n → f k = g k) : Ints w M A n g := fun k hk => by
  obtain ⟨b, off, hA, hb1, hc⟩ := h k hk
  exact ⟨b, off, hA, hb1, by rw [hc, hfg k hk]⟩

/-- A list by its index. -/
def at_ (l : List Int) (k : Nat) : Int := l.getD k 0

theorem Ints.own {w : World} {B E : Nat} {A : Option Addr} {n cap : Nat} {l : List Int} (h : w.ownsRow B E 1 (.slice A n cap) n (l.map (Value.int .i64))) : Ints w w.heap.size A n (at_ l) := fun k hk => by
  obtain ⟨g, c, hv, _, hlt⟩ := h.form (by omega)
  cases hv
  refine ⟨g, 0, rfl, hlt, ?_⟩
  have hl : l.length = n := by have := h.1; simpa using this
  rw [Nat.zero_add, h.cellAt k (by omega)]
  unfold at_
  simp [List.getD, hl, hk]

def eqB (n m : Nat) (f g : Nat → Int) : Bool := (n == m) && (List.range n).all fun k => f k == g k

theorem eqB_len {n m : Nat} {f g : Nat → Int} (h : n ≠ m) : eqB n m f g = false := by unfold eqB; rw [beq_eq_false_iff_ne.2 h]; rfl

theorem eqB_no {n : Nat} {f g : Nat → Int} {k : Nat} (hk : k < n) (h : f k ≠ g k) : eqB n n f g = false := by
  unfold eqB
  rw [beq_self_eq_true, Bool.true_and, List.all_eq_false]
  exact ⟨k, List.mem_range.2 hk, by simpa using h⟩

theorem eqB_yes {n : Nat} {f g : Nat → Int} (h : ∀ k, k < n → f k = g k) : eqB n n f g = true := by
  unfold eqB
  rw [beq_self_eq_true, Bool.true_and, List.all_eq_true]
  intro k hk
  simpa using h k (List.mem_range.1 hk)

/-- The same world, but for some draws. -/
def Drawn (w w' : World) : Prop := ∃ d, w' = w.drewN d

theorem Drawn.more {w w' : World} (h : Drawn w w') (n : Nat) : Drawn w (w'.drewN n) := by
  obtain ⟨d, rfl⟩ := h
  exact ⟨d + n, World.drewN_drewN _ _ _⟩

theorem Drawn.below {w w' : World} (h : Drawn w w') (B : Nat) : Below B w w' := by
  obtain ⟨d, rfl⟩ := h
  exact Qu.below_draws (Below.refl _ _) d

end Go.Proofs.Ytbicdmhmpmdoeaa.Hl
