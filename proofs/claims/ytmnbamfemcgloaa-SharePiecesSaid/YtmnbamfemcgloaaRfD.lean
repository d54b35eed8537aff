/- The reference's Times and Rate, whole. -/
import Derived.Test.YtmnbamfemcgloaaRfC
set_option linter.unusedVariables false
namespace Go.Proofs.Ytmnbamfemcgloaa.Rf
open Go.ChangeShapes Go.WideShapes Go.ChangeAt Go.RowKit

theorem timesR_yes (way x y d v : Int) (g : Ok x ∧ Ok y ∧ 1 ≤ d ∧ d ≤ 100000000000000 ∧ 0 ≤ way ∧ way ≤ 2) (h : Mn.rnd way (x * y / d) (x * y % d) d = v) (hv : v ≤ 100000000000000) : timesR way x y d = (v, 0) := by
  unfold timesR Mn.timesV Mn.timesE
  rw [if_pos g, h, if_pos hv, if_pos hv]
theorem timesR_no (way x y d v : Int) (g : Ok x ∧ Ok y ∧ 1 ≤ d ∧ d ≤ 100000000000000 ∧ 0 ≤ way ∧ way ≤ 2) (h : Mn.rnd way (x * y / d) (x * y % d) d = v) (hv : 100000000000000 < v) : timesR way x y d = (0, 5) := by
  unfold timesR Mn.timesV Mn.timesE
  rw [if_pos g, h, if_neg (by omega), if_neg (by omega)]

theorem r_times (way x y d : Int) (w : World) : Calls Try.prog 32 #[.int .i64 x, .int .i64 y, .int .i64 d, .int .i64 way] w fun e w' => e = pairOf (timesR way x y d) ∧ Below w.heap.size w w' := by
  by_cases g : Ok x ∧ Ok y ∧ 1 ≤ d ∧ d ≤ 100000000000000 ∧ 0 ≤ way ∧ way ≤ 2
  · have g' := g
    obtain ⟨⟨h0, h1⟩, ⟨g0, g1⟩, d0, d1, w0, w1⟩ := g
    have hN : 0 ≤ x * y := Int.mul_nonneg h0 g0
    have q0 : 0 ≤ x * y / d := Int.ediv_nonneg hN (by omega)
    have r0 : 0 ≤ x * y % d := Int.emod_nonneg _ (by omega)
    have r1 : x * y % d < d := Int.emod_lt_of_pos _ (by omega)
    have hge := Mn.rnd_ge way (x * y / d) (x * y % d) d q0
    by_cases hq : x * y / d ≤ 100000000000000
    · have HP := Lib.hid (fun w => (parts_any x y d w h0 h1 g0 g1 d0 d1).mono (fun e w' (h : PartsSaid x y d w e w') => And.intro (h.2.1 hq) h.1))
      have yes := timesR_yes way x y d
      have no := timesR_no way x y d
      generalize x * y / d = q at *
      generalize x * y % d = r at *
      obtain rfl | rfl | rfl : way = 0 ∨ way = 1 ∨ way = 2 := by omega
      · rw [yes q g' (by simp [Mn.rnd]) hq]
        exact t_0ay x y d q r w h0 h1 g0 g1 d0 d1 q0 hq r0 r1 hq HP
      · by_cases c : 2 * r < d
        · rw [yes q g' (by simp [Mn.rnd]; omega) hq]
          exact t_1ay x y d q r w h0 h1 g0 g1 d0 d1 q0 hq r0 r1 c hq HP
        · by_cases o : q + 1 ≤ 100000000000000
          · rw [yes (q + 1) g' (by simp [Mn.rnd]; omega) o]
            exact t_1by x y d q r w h0 h1 g0 g1 d0 d1 q0 hq r0 r1 (by omega) o HP
          · rw [no (q + 1) g' (by simp [Mn.rnd]; omega) (by omega)]
            exact t_1bo x y d q r w h0 h1 g0 g1 d0 d1 q0 hq r0 r1 (by omega) (by omega) HP
      · by_cases c : 2 * r < d
        · rw [yes q g' (by simp [Mn.rnd]; omega) hq]
          exact t_2ay x y d q r w h0 h1 g0 g1 d0 d1 q0 hq r0 r1 c hq HP
        by_cases c2 : d < 2 * r
        · by_cases o : q + 1 ≤ 100000000000000
          · rw [yes (q + 1) g' (by simp [Mn.rnd]; omega) o]
            exact t_2by x y d q r w h0 h1 g0 g1 d0 d1 q0 hq r0 r1 c2 o HP
          · rw [no (q + 1) g' (by simp [Mn.rnd]; omega) (by omega)]
            exact t_2bo x y d q r w h0 h1 g0 g1 d0 d1 q0 hq r0 r1 c2 (by omega) HP
        by_cases c3 : q % 2 = 1
        · by_cases o : q + 1 ≤ 100000000000000
          · rw [yes (q + 1) g' (by simp [Mn.rnd]; omega) o]
            exact t_2cy x y d q r w h0 h1 g0 g1 d0 d1 q0 hq r0 r1 (by omega) (by omega) (Lib.hid c3) o HP
          · rw [no (q + 1) g' (by simp [Mn.rnd]; omega) (by omega)]
            exact t_2co x y d q r w h0 h1 g0 g1 d0 d1 q0 hq r0 r1 (by omega) (by omega) (Lib.hid c3) (by omega) HP
        · rw [yes q g' (by simp [Mn.rnd]; omega) hq]
          exact t_2dy x y d q r w h0 h1 g0 g1 d0 d1 q0 hq r0 r1 (by omega) (by omega) (Lib.hid c3) hq HP
    · rw [timesR_no way x y d _ g' rfl (by omega)]
      exact t_no x y d way w h0 h1 g0 g1 d0 d1 w0 w1 (Lib.hid (fun w => (parts_any x y d w h0 h1 g0 g1 d0 d1).mono (fun e w' (h : PartsSaid x y d w e w') => And.intro (h.2.2 (by omega)) h.1)))
  · rw [times_bad way x y d g]
    exact t_bad way x y d w g

end Go.Proofs.Ytmnbamfemcgloaa.Rf
