/- What every statement of layer 1 asks first: the program is awake. -/
import Derived.Test.YtdhgneaolohgkaaMnC
namespace Go.Proofs.Ytdhgneaolohgkaa.Mn
open Go.ChangeShapes Go.WideShapes Go.ChangeAt Go.RowKit
set_option linter.unusedVariables false

theorem awake1 (w : World) : Calls Try.prog 20 #[] w fun e w' => e = .returned (.bool true) ∧ Below w.heap.size w w' := by
  have hv := Lib.hid (times_eq 1 199 1500 10000 29 8500 30 (by omega) (by omega) (by omega) (by simp [rnd]) (by omega))
  go_enter Try.func20, Try.ntmps20
  go_wp2_with fail
  refine (rate_is 1 199 1500 30 0 _ (by omega) (by omega) (by omega) (by omega) (by omega) (by omega) hv.out).mono ?_
  rintro e w1 ⟨rfl, hb⟩
  go_wp2_with fail
  refine (add_ok 2 3 _ (by omega) (by omega) (by omega) (by omega) (by omega)).mono ?_
  rintro e w2 ⟨rfl, rfl⟩
  go_wp2
  go_ret
  exact ⟨rfl, hb⟩

end Go.Proofs.Ytdhgneaolohgkaa.Mn
