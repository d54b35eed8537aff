/- Contracts of package queue's inner functions. -/
import Derived.Test.YtmnbamfemcgloaaRows
import Derived.Test.YtmnbamfemcgloaaKit
import Derived.Test.YtmnbamfemcgloaaQuW
import Derived.WalkKit
import Derived.ProofKit
import Derived.OpenShut
import Derived.Lib.Hide
import Derived.BigQuiet
import Derived.Deep.QuietTactic
import Derived.Deep.RegionHeld3
namespace Go.Proofs.Ytmnbamfemcgloaa.Qu
open Go.ChangeShapes Go.WideShapes Go.ChangeAt Go.RowKit
set_option linter.unusedVariables false

theorem ahead_any (x y : Pt) (w : World) :
    Calls Try.prog 74 #[.agg #[.int .i64 x.1, .int .i64 x.2], .agg #[.int .i64 y.1, .int .i64 y.2]] w fun e w' => e = .returned (.bool (aheadB x y)) ∧ Below w.heap.size w w' := by
  obtain ⟨a, b⟩ := x
  obtain ⟨c, d⟩ := y
  by_cases h : a = c
  · subst h
    have e : aheadB (a, b) (a, d) = decide (b < d) := by simp [aheadB]
    rw [e]
    generalize he : decide (b < d) = t
    have HE := Lib.hid he
    clear he
    go_enter Try.func74, Try.ntmps74
    go_wp2
    all_goals
      go_ret
      exact ⟨by rw [HE.out]; rfl, (((Below.refl _ _).alloc (Nat.le_refl _) _)).alloc (by simp) _⟩
  · have e : aheadB (a, b) (c, d) = decide (c < a) := by simp only [aheadB, decide_eq_decide]; omega
    rw [e]
    have h' : (a != c) = true := by rw [bne_iff_ne]; exact h
    generalize he : decide (c < a) = t
    have HE := Lib.hid he
    clear he
    go_enter Try.func74, Try.ntmps74
    go_wp2
    all_goals
      go_ret
      exact ⟨by rw [HE.out]; rfl, (((Below.refl _ _).alloc (Nat.le_refl _) _)).alloc (by simp) _⟩

theorem less_any (g n cap : Nat) (a : Array Pt) (i j : Nat) (B : Nat) (w : World) (h : w.ownsRow B 81 2 (.slice (some ⟨g, 0, none⟩) n cap) n (cells2 a.toList)) (hi : i < n) (hj : j < n) (hn : n ≤ 1000000000) :
    Calls Try.prog 72 #[.slice (some ⟨g, 0, none⟩) n cap, .int .i64 i, .int .i64 j] w fun e w' => e = .returned (.bool (aheadB (gt a i) (gt a j))) ∧ Below w.heap.size w w' := by
  have hs := row_len h
  have c0 := row_cell0 h hs i hi
  have c1 := row_cell1 h hs i hi
  have d0 := row_cell0 h hs j hj
  have d1 := row_cell1 h hs j hj
  have hg : g < w.heap.size := World.block_lt_of_cell? w _ c0
  clear hs h
  have i0 : (0 : Int) ≤ (i : Int) := by omega
  have i1 : (i : Int) < (n : Int) := by omega
  have j0 : (0 : Int) ≤ (j : Int) := by omega
  have j1 : (j : Int) < (n : Int) := by omega
  go_enter Try.func72, Try.ntmps72
  go_wp2
  go_region_held3 (fun w' => w'.cell? ⟨g, i * 2, none⟩ = some (.int .i64 (gt a i).1) ∧ w'.cell? ⟨g, i * 2 + 1, none⟩ = some (.int .i64 (gt a i).2) ∧ w'.cell? ⟨g, j * 2, none⟩ = some (.int .i64 (gt a j).1) ∧ w'.cell? ⟨g, j * 2 + 1, none⟩ = some (.int .i64 (gt a j).2)) (first | go_keep | (refine ⟨?_, ?_, ?_, ?_⟩ <;> rw [hc]; exact c0; exact c1; exact d0; exact d1)) ((go_at_call 74; refine (ahead_any (gt a i) (gt a j) _).mono ?_; rintro e w' ⟨rfl, hb⟩; have hc := fun o : Nat => hb.cell (p := ⟨g, o, none⟩) hg))
  all_goals
    go_wp2
    go_ret
    exact ⟨rfl, below_undrew hb⟩

theorem len_any (v : Option Addr) (n cap : Nat) (w : World) : Calls Try.prog 71 #[.slice v n cap] w fun e w' => e = .returned (.int .i64 n) ∧ w = w' := by
  go_enter Try.func71, Try.ntmps71
  go_wp2
  go_ret
  exact ⟨rfl, rfl⟩

end Go.Proofs.Ytmnbamfemcgloaa.Qu
