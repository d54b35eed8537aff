/- What Order tells, as a list of numbers. -/
import Derived.Test.YtmnbamfemcgloaaQuH
namespace Go.Proofs.Ytmnbamfemcgloaa.Qu
open Go.ChangeShapes Go.WideShapes Go.ChangeAt Go.RowKit
set_option linter.unusedVariables false

theorem nums_eq (l : List Pt) : nums l = (l.map (·.2)).map (Value.int .i64) := by simp [nums]

theorem ints_blk {w : World} {g t n : Nat} {cs : Array Value} {l : List Int} (h : Blk w g t cs) (hc : cs.toList = l.map (Value.int .i64)) (hn : n = l.length) : Hl.Ints w w.heap.size (some ⟨g, 0, none⟩) n (Hl.at_ l) := fun k hk => by
  refine ⟨g, 0, rfl, h.lt, ?_⟩
  subst hn
  rw [Nat.zero_add, h.cell k, ← Array.getElem?_toList, hc]
  unfold Hl.at_
  simp [hk]

def Told (e : Ending) (w w' : World) (n : Nat) (l : List Int) : Prop := ∃ A c, e = .returned (.slice A n c) ∧ Hl.Ints w' w'.heap.size A n (Hl.at_ l) ∧ Below w.heap.size w w'

end Go.Proofs.Ytmnbamfemcgloaa.Qu
