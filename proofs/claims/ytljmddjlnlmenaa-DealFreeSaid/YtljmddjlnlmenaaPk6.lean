/- Contracts of package share's small functions, and of the document's Upto and Piece. -/
import Derived.Test.YtljmddjlnlmenaaPk0
import Derived.Test.YtljmddjlnlmenaaPk4

set_option maxRecDepth 100000
namespace Go.Proofs.Ytljmddjlnlmenaa.Sh
open Go.ChangeShapes Go.WideShapes Go.ChangeAt Go.RowKit
open Rf (pairOf)
set_option linter.unusedVariables false
theorem upto_in (t n k : Int) (t0 : 0 ≤ t) (n0 : 1 ≤ n) (k0 : 0 ≤ k) (k1 : k ≤ n) : 0 ≤ t * k / n ∧ t * k / n ≤ t := by
  refine ⟨Int.ediv_nonneg (Int.mul_nonneg t0 k0) (by omega), ?_⟩
  have h : t * k ≤ t * n := Int.mul_le_mul_of_nonneg_left k1 t0
  have h2 := Int.ediv_le_ediv (c := n) (by omega) h
  rwa [Int.mul_ediv_cancel _ (by omega)] at h2
end Go.Proofs.Ytljmddjlnlmenaa.Sh
