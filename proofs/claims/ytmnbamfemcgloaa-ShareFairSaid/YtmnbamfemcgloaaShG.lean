/- What ShareSums and ShareFair share: one list of parts, by its index. -/
import Derived.Test.YtmnbamfemcgloaaShF
namespace Go.Proofs.Ytmnbamfemcgloaa.Sh
open Go.ChangeShapes Go.WideShapes Go.ChangeAt Go.RowKit
set_option linter.unusedVariables false

theorem sumF_nth (l : List Int) : sumF (nth l) l.length = sumL l := by
  have e : (List.range l.length).map (nth l) = l := by
    apply List.ext_getElem
    · simp
    · intro i h1 h2
      simp [nth, List.getD, List.getElem?_eq_getElem h2]
  rw [← sumL_range, e]

theorem ints_drawn {w w' : World} {A : Option Addr} {n : Nat} {f : Nat → Int} (h : Hl.Ints w w.heap.size A n f) (hD : Hl.Drawn w w') : Hl.Ints w' w'.heap.size A n f := (h.below (hD.below w.heap.size) (Nat.le_refl _)).size

/-- What is known of the parts of t. -/
structure Known (t S : Int) (g : Nat → Int) (m : Nat) (l : List Int) : Prop where
  len : l.length = m
  sum : sumF (nth l) m = t
  each : ∀ i, i < m → nth l i = t * g i / S ∨ (nth l i = t * g i / S + 1 ∧ t * g i % S ≠ 0)
  fair : ∀ i k, i < m → k < m → t * g i / S < nth l i → nth l k = t * g k / S → t * g k % S < t * g i % S ∨ (t * g k % S = t * g i % S ∧ i < k)

theorem known (t S : Int) (g : Nat → Int) (m : Nat) (hS : S = sumF g m) (S0 : 1 ≤ S) : Known t S g m (parts t S g m) := by
  refine ⟨parts_length, ?_, fun i hi => each S0 hS hi, fun i k hi hk h1 h2 => fair i k hi hk h1 h2⟩
  have := sumF_nth (parts t S g m)
  rw [parts_length, parts_sum S0 hS] at this
  exact this

/-- Sizes, where t and the weights are small. -/
theorem sized (t S : Int) (g : Nat → Int) (m : Nat) (t0 : 0 ≤ t) (hg : ∀ k, k < m → 0 ≤ g k) (hS : S = sumF g m) (S0 : 1 ≤ S) (i : Nat) (hi : i < m) :
    0 ≤ t * g i ∧ 0 ≤ t * g i / S ∧ t * g i / S ≤ t ∧ 0 ≤ t * g i % S ∧ t * g i % S < S :=
  ⟨Int.mul_nonneg t0 (hg i hi), base_nonneg S0 t0 i (hg i hi), base_le S0 t0 i (by rw [hS]; exact sumF_elem m i hi hg), (rest_in (t := t) (f := g) S0 i).1, (rest_in (t := t) (f := g) S0 i).2⟩

theorem small_sum (g : Nat → Int) (m : Nat) (M : Int) (hm : m ≤ 60) (hg : ∀ k, k < m → 0 ≤ g k ∧ g k < M) (M0 : 0 ≤ M) : 0 ≤ sumF g m ∧ sumF g m ≤ 60 * M := by
  have s1 := sumF_mono (f := g) (g := fun _ => M) m (fun k hk => by have := (hg k hk).2; omega)
  rw [sumF_const] at s1
  have s2 : (m : Int) * M ≤ 60 * M := Int.mul_le_mul_of_nonneg_right (by omega) M0
  exact ⟨sumF_nonneg m (fun k hk => (hg k hk).1), by omega⟩

end Go.Proofs.Ytmnbamfemcgloaa.Sh
