/- The reference's calls of layer 1, and package money's, by one plain function each. -/
import Derived.Test.YtmnbamfemcgloaaRfA
set_option linter.unusedVariables false
namespace Go.Proofs.Ytmnbamfemcgloaa.Rf
open Go.ChangeShapes Go.WideShapes Go.ChangeAt Go.RowKit

abbrev Ok (x : Int) : Prop := 0 ≤ x ∧ x ≤ 100000000000000
def okB (x : Int) : Bool := decide (Ok x)
def addR (a b : Int) : Int × Int := if Ok a ∧ Ok b then (if Ok (a + b) then (a + b, 0) else (0, 5)) else (0, 2)
def subR (a b : Int) : Int × Int := if Ok a ∧ Ok b then (if b ≤ a then (a - b, 0) else (0, 5)) else (0, 2)
def timesR (way x y d : Int) : Int × Int := if Ok x ∧ Ok y ∧ 1 ≤ d ∧ d ≤ 100000000000000 ∧ 0 ≤ way ∧ way ≤ 2 then (Mn.timesV way x y d, Mn.timesE way x y d) else (0, 2)
def rateR (way x rate : Int) : Int × Int := if 0 ≤ rate ∧ rate ≤ 10000 then timesR way x rate 10000 else (0, 2)
/-- A pair as Go answers it. -/
def pairOf (p : Int × Int) : Ending := .returned (.tuple #[.int .i64 p.1, .int .i64 p.2])

theorem m_right (x : Int) (w : World) : Calls Try.prog 24 #[.int .i64 x] w fun e w' => e = .returned (.bool (okB x)) ∧ w = w' := by
  unfold okB
  by_cases h : Ok x
  · rw [decide_eq_true h]; exact Mn.right_yes x w h.1 h.2
  · rw [decide_eq_false h]; exact Mn.right_no x w (by unfold Ok at h; omega)

theorem m_add (a b : Int) (w : World) : Calls Try.prog 36 #[.int .i64 a, .int .i64 b] w fun e w' => e = pairOf (addR a b) ∧ w = w' := by
  unfold addR pairOf Ok
  by_cases h : (0 ≤ a ∧ a ≤ 100000000000000) ∧ 0 ≤ b ∧ b ≤ 100000000000000
  · rw [if_pos h]
    by_cases h2 : a + b ≤ 100000000000000
    · rw [if_pos (by omega)]; exact Mn.add_ok a b w h.1.1 h.1.2 h.2.1 h.2.2 h2
    · rw [if_neg (by omega)]; exact Mn.add_over a b w h.1.1 h.1.2 h.2.1 h.2.2 (by omega)
  · rw [if_neg h]; exact Mn.add_bad a b w (by omega)

theorem m_sub (a b : Int) (w : World) : Calls Try.prog 33 #[.int .i64 a, .int .i64 b] w fun e w' => e = pairOf (subR a b) ∧ w = w' := by
  unfold subR pairOf Ok
  by_cases h : (0 ≤ a ∧ a ≤ 100000000000000) ∧ 0 ≤ b ∧ b ≤ 100000000000000
  · rw [if_pos h]
    by_cases h2 : b ≤ a
    · rw [if_pos h2]; exact Mn.sub_ok a b w h.1.1 h.1.2 h.2.1 h.2.2 h2
    · rw [if_neg h2]; exact Mn.sub_over a b w h.1.1 h.1.2 h.2.1 h.2.2 (by omega)
  · rw [if_neg h]; exact Mn.sub_bad a b w (by omega)

theorem m_times (way x y d : Int) (w : World) : Calls Try.prog 31 #[.int .i64 x, .int .i64 y, .int .i64 d, .int .i64 way] w fun e w' => e = pairOf (timesR way x y d) ∧ Below w.heap.size w w' := by
  unfold timesR pairOf Ok
  by_cases h : (0 ≤ x ∧ x ≤ 100000000000000) ∧ (0 ≤ y ∧ y ≤ 100000000000000) ∧ 1 ≤ d ∧ d ≤ 100000000000000 ∧ 0 ≤ way ∧ way ≤ 2
  · rw [if_pos h]
    obtain ⟨⟨h0, h1⟩, ⟨g0, g1⟩, d0, d1, w0, w1⟩ := h
    exact Mn.times_any way x y d w h0 h1 g0 g1 d0 d1 w0 w1 (Dv.need_all x y d h0 h1 g0 g1 d0 d1)
  · rw [if_neg h]; exact Mn.times_bad way x y d w (by omega)

/-! The reference. -/
theorem right_yes (x : Int) (w : World) (h0 : 0 ≤ x) (h1 : x ≤ 100000000000000) :
    Calls Try.prog 28 #[.int .i64 x] w fun e w' => e = .returned (.bool true) ∧ w = w' := by
  go_enter Try.func28, Try.ntmps28
  go_wp2
  go_ret
  exact ⟨rfl, rfl⟩

theorem right_no (x : Int) (w : World) (h : x < 0 ∨ 100000000000000 < x) :
    Calls Try.prog 28 #[.int .i64 x] w fun e w' => e = .returned (.bool false) ∧ w = w' := by
  rcases h with h | h
  · go_enter Try.func28, Try.ntmps28
    go_wp2
    go_ret
    exact ⟨rfl, rfl⟩
  · have hd : decide (x ≤ 100000000000000) = false := by simp; omega
    go_enter Try.func28, Try.ntmps28
    go_wp2
    go_ret
    exact ⟨rfl, rfl⟩

theorem r_right (x : Int) (w : World) : Calls Try.prog 28 #[.int .i64 x] w fun e w' => e = .returned (.bool (okB x)) ∧ w = w' := by
  unfold okB
  by_cases h : Ok x
  · rw [decide_eq_true h]; exact right_yes x w h.1 h.2
  · rw [decide_eq_false h]; exact right_no x w (by unfold Ok at h; omega)

theorem one (x y : Int) : x * y / 1 = x * y ∧ x * y % 1 = 0 := ⟨Int.ediv_one _, Int.emod_one _⟩
theorem mul_yes (x y : Int) (h0 : Ok x) (g0 : Ok y) (h : x * y / 1 ≤ 100000000000000) : timesR 0 x y 1 = (x * y / 1, 0) := by
  unfold timesR Mn.timesV Mn.timesE
  rw [if_pos ⟨h0, g0, by omega, by omega, by omega, by omega⟩]
  have e : Mn.rnd 0 (x * y / 1) (x * y % 1) 1 = x * y / 1 := by simp [Mn.rnd]
  rw [e, if_pos h, if_pos h]
theorem mul_no (x y : Int) (h0 : Ok x) (g0 : Ok y) (h : 100000000000000 < x * y / 1) : timesR 0 x y 1 = (0, 5) := by
  unfold timesR Mn.timesV Mn.timesE
  rw [if_pos ⟨h0, g0, by omega, by omega, by omega, by omega⟩]
  have e : Mn.rnd 0 (x * y / 1) (x * y % 1) 1 = x * y / 1 := by simp [Mn.rnd]
  rw [e, if_neg (by omega), if_neg (by omega)]
theorem times_bad (way x y d : Int) (h : ¬ (Ok x ∧ Ok y ∧ 1 ≤ d ∧ d ≤ 100000000000000 ∧ 0 ≤ way ∧ way ≤ 2)) : timesR way x y d = (0, 2) := by
  unfold timesR
  rw [if_neg h]

end Go.Proofs.Ytmnbamfemcgloaa.Rf
