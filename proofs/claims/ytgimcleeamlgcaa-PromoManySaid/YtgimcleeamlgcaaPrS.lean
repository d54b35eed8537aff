/- A promotion whose lists are small enough to be walked. -/
import Derived.Test.YtgimcleeamlgcaaPrT
set_option maxRecDepth 100000

set_option linter.unusedVariables false
namespace Go.Proofs.Ytgimcleeamlgcaa.Pr
open Go.ChangeShapes Go.WideShapes Go.ChangeAt Go.RowKit
open Ap (Scp Prt Tir Prm)

/-- A promotion whose lists are small enough to be walked. -/
structure PrmSmall (p : Prm) (l : Prm.Lay) : Prop where
  scope : Sc.Small l.scope
  parts : PartsSmall p.parts
  np : l.parts.n ≤ 1000000000000
  nt : l.tiers.n ≤ 1000000000000

theorem nat_zero (k : Nat) : ((k : Int) == 0) = (k == 0) := by
  by_cases h : k = 0
  · subst h; rfl
  · rw [beq_eq_false_iff_ne.2 h]; exact beq_eq_false_iff_ne.2 (by omega)

theorem headB_def (p : Prm) : headB p = (Sr.name p.id && decide (1 ≤ p.kind) && decide (p.kind ≤ 7) && decide (0 ≤ p.priority) && decide (p.priority ≤ 1000) && blankB p.group && blankB p.code && Sc.scopeB p.scope && inB p.least 10000000000000) := rfl

theorem holds_later {w w1 : World} {p : Prm} {l : Prm.Lay} (h : Ap.Prm.Holds w (· < w.heap.size) p l) (hb1 : Below w.heap.size w w1) : Ap.Prm.Holds w1 (· < w1.heap.size) p l :=
  ⟨h.id, h.kind, h.priority, h.group, h.code, ⟨(h.scope.skus.below hb1 (Nat.le_refl _)).more fun b hb => Nat.lt_of_lt_of_le hb hb1.size, (h.scope.cats.below hb1 (Nat.le_refl _)).more fun b hb => Nat.lt_of_lt_of_le hb hb1.size⟩, h.least, h.rate, h.amount, h.buy, h.get, (h.parts.below hb1 (Nat.le_refl _)).more fun b hb => Nat.lt_of_lt_of_le hb hb1.size, (h.tiers.below hb1 (Nat.le_refl _)).more fun b hb => Nat.lt_of_lt_of_le hb hb1.size⟩

end Go.Proofs.Ytgimcleeamlgcaa.Pr
