/- What every statement of layer 5 asks first. -/
import Derived.Test.YtipjcmkfgfcoiaaCrC
import Derived.Test.YtipjcmkfgfcoiaaByS
import Derived.Test.YtipjcmkfgfcoiaaKitE
import Derived.RegionTactic
import Derived.Deep.RegionHeld3
namespace Go.Proofs.Ytipjcmkfgfcoiaa.Cr
open Go.ChangeShapes Go.WideShapes Go.ChangeAt Go.RowKit
open By (Bys at_ at_in)
set_option linter.unusedVariables false

theorem sum_nine : sum [49, 50, 51, 52, 53, 54, 55, 56, 57] = 3421780262 := by decide +kernel

theorem awake_any (w : World) : Calls Try.prog 8 #[] w fun e w' => e = .returned (.bool true) ∧ Below w.heap.size w w' := by
  have kc := fun (w : World) (C : Array Value) (n c : Nat) => Lib.run_convert_bytes_const (P := Try.prog) w 23 5 C n c Try.underlying23 Try.underlying5
  go_enter Try.func8, Try.ntmps8
  go_wp2_with fail
  refine (sum_any 9 9 _ _ [49, 50, 51, 52, 53, 54, 55, 56, 57] _ (By.Bys.text w [49, 50, 51, 52, 53, 54, 55, 56, 57] 9 rfl (9, 10)) (by omega)).mono ?_
  rintro e w1 ⟨rfl, hb⟩
  have HB := Lib.hid (((Below.refl w.heap.size w).alloc (Nat.le_refl _) _).trans (hb.mono (by simp)))
  rw [sum_nine]
  clear hb kc
  go_wp2
  go_ret
  exact ⟨rfl, HB.out⟩

end Go.Proofs.Ytipjcmkfgfcoiaa.Cr
