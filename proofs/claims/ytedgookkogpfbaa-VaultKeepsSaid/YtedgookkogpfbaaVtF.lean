/- A sound vault is found. -/
import Derived.Test.YtedgookkogpfbaaVtZ
set_option maxRecDepth 100000
set_option linter.unusedVariables false
namespace Go.Proofs.Ytedgookkogpfbaa.Vt
open Lf (Leaf layB readB takesB markN)
open Dk (DS dsNew crashD startD armD)
open Jr

theorem VInv.found {d : DS} {h n e eb : Nat} {recs : Recs} {b0 : List UInt8} (v : VInv d h n e recs eb b0) : vfound d = true := by
  have hsz := v.size
  have hep := v.epochs
  have hop := v.open_
  have hoth := v.other
  have hj : ∀ E, openJ d (h * n) n E = ⟨h * n, n, E, recs.map (·.1), eb, total recs, false⟩ := fun E => by unfold openJ; rw [hop]
  have hp : ∀ E, pickV d n E = (h, openJ d (h * n) n E) := fun E => by
    rcases Nat.le_one_iff_eq_zero_or_eq_one.1 v.h1 with rfl | rfl
    · have q := hj E
      rw [Nat.zero_mul] at q ⊢
      rw [show (1 - 0) * n = n by omega] at hoth
      unfold pickV
      rw [if_neg ?_]
      rw [q]
      show ¬ eb < (openN (secs d n) n).begun
      omega
    · have q := hj E
      rw [Nat.one_mul] at q ⊢
      rw [show (1 - 1) * n = 0 by omega] at hoth
      unfold pickV
      rw [if_pos ?_]
      rw [q]
      exact hoth
  unfold vfound
  rw [hsz, hp, hj]
  exact decide_eq_true (show eb ≠ 0 by omega)

theorem VT.found {d : DS} {v : VS} {base : List UInt8} {i : Nat} (h : VT d v base i) : vfound d = true := h.live.inv.found

theorem VB.found {d : DS} {base nb : List UInt8} {all nx : List (List UInt8)} (h : VB d base all nb nx) : vfound d = true := by
  obtain ⟨hh, n, e, recs, eb, b0, hv, he, hr⟩ := h
  exact hv.found

end Go.Proofs.Ytedgookkogpfbaa.Vt
