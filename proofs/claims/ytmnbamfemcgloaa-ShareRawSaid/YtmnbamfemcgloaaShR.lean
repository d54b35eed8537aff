/- The document's Largest. -/
import Derived.Test.YtmnbamfemcgloaaShD
import Derived.Test.YtmnbamfemcgloaaQuI
import Derived.Deep.RegionWith
namespace Go.Proofs.Ytmnbamfemcgloaa.Sh
open Go.ChangeShapes Go.WideShapes Go.ChangeAt Go.RowKit
open Qu (Blk IsQ Moved Pt ord)
set_option linter.unusedVariables false

theorem rl_t (t : Int) (A : Option Addr) (n c : Nat) (w : World) (h : t < 0 ∨ 100000000000000 < t) :
    Calls Try.prog 13 #[.int .i64 t, .slice A n c] w fun e w' => e = .returned (.tuple #[.slice none 0 0, .int .i64 2]) ∧ w = w' := by
  go_enter Try.func13, Try.ntmps13
  go_wp2_with fail
  refine (Rf.right_no _ _ h).mono ?_
  rintro e w1 ⟨rfl, rfl⟩
  go_wp2
  all_goals
    go_ret2
    exact ⟨rfl, rfl⟩

theorem rl_n (t : Int) (A : Option Addr) (n c : Nat) (w : World) (t0 : 0 ≤ t) (t1 : t ≤ 100000000000000) (h : 100000 < n) :
    Calls Try.prog 13 #[.int .i64 t, .slice A n c] w fun e w' => e = .returned (.tuple #[.slice none 0 0, .int .i64 2]) ∧ w = w' := by
  have d0 : decide ((100000 : Int) < (n : Int)) = true := by simp; omega
  have d1 : decide (100000 < n) = true := by simp; omega
  clear h
  go_enter Try.func13, Try.ntmps13
  go_wp2_with fail
  refine (Rf.right_yes _ _ t0 t1).mono ?_
  rintro e w1 ⟨rfl, rfl⟩
  go_wp2
  all_goals
    go_ret2
    exact ⟨rfl, rfl⟩

/-- The first loop, where a weight is wrong. -/
theorem rl_w (t : Int) (A : Option Addr) (n c : Nat) (f : Nat → Int) (w : World) (ha : Hl.Ints w w.heap.size A n f) (t0 : 0 ≤ t) (t1 : t ≤ 100000000000000) (hn : n ≤ 100000) (h : allOk f n = false) :
    Calls Try.prog 13 #[.int .i64 t, .slice A n c] w fun e w' => e = .returned (.tuple #[.slice none 0 0, .int .i64 2]) ∧ w = w' := by
  have d0 : decide ((100000 : Int) < (n : Int)) = false := by simp; omega
  have d1 : decide (100000 < n) = false := by simp; omega
  have n1 : (n : Int) ≤ 100000 := by omega
  have HA := Lib.hid ha
  have HF := Lib.hid h
  clear ha h
  go_enter Try.func13, Try.ntmps13
  go_wp2_with fail
  refine (Rf.right_yes _ _ t0 t1).mono ?_
  rintro e w1 ⟨rfl, rfl⟩
  go_wp2
  go_loopw [6] (fun s wr => ∃ k : Nat, s = .int .i64 k ∧ k ≤ n ∧ w = wr ∧ ∀ j, j < k → 0 ≤ f j ∧ f j ≤ 100000000000000) (fun s _ => n - (intOf s).toNat)
  case atStart => exact ⟨0, rfl, by omega, by trivial, fun j hj => by omega⟩
  case round =>
    obtain ⟨k, rfl, hk, rfl, hE⟩ := hrel
    have HE := Lib.hid hE
    clear hE
    have k0 : (0 : Int) ≤ (k : Int) := by omega
    by_cases hlt : k < n
    · obtain ⟨b, o, rfl, hbm, c1⟩ := HA.out k hlt
      have k1 : (k : Int) < (n : Int) := by omega
      by_cases hx : 0 ≤ f k ∧ f k ≤ 100000000000000
      · have HX := Lib.hid hx
        clear hx
        go_wp2_with fail
        refine (Rf.right_yes _ _ HX.out.1 HX.out.2).mono ?_
        rintro e w1 ⟨rfl, rfl⟩
        go_wp2
        go_roundw
        case rel => exact ⟨k + 1, by go_num, by omega, by trivial, fun j hj => by
          rcases Nat.lt_or_ge j k with h | h
          · exact HE.out j h
          · have : j = k := by omega
            subst this; exact HX.out⟩
        case measure => simp [intOf]; omega
      · have HX := Lib.hid (show f k < 0 ∨ 100000000000000 < f k by omega)
        clear hx
        go_wp2_with fail
        refine (Rf.right_no _ _ HX.out).mono ?_
        rintro e w1 ⟨rfl, rfl⟩
        go_wp2
        go_ret2
        exact ⟨rfl, rfl⟩
    · exfalso
      have := (allOk_iff f n).2 (fun j hj => HE.out j (by omega))
      rw [HF.out] at this
      cases this

/-- The second loop, where the sum is too great. -/
theorem rl_over (t : Int) (A : Option Addr) (n c : Nat) (f : Nat → Int) (w : World) (ha : Hl.Ints w w.heap.size A n f) (t0 : 0 ≤ t) (t1 : t ≤ 100000000000000) (hn : n ≤ 100000) (hf : ∀ k, k < n → 0 ≤ f k ∧ f k ≤ 100000000000000) (h : 100000000000000 < sumF f n) :
    Calls Try.prog 13 #[.int .i64 t, .slice A n c] w fun e w' => e = .returned (.tuple #[.slice none 0 0, .int .i64 5]) ∧ w = w' := by
  have d0 : decide ((100000 : Int) < (n : Int)) = false := by simp; omega
  have d1 : decide (100000 < n) = false := by simp; omega
  have n1 : (n : Int) ≤ 100000 := by omega
  have HA := Lib.hid ha
  have HF := Lib.hid (And.intro hf h)
  clear ha h hf
  go_enter Try.func13, Try.ntmps13
  go_wp2_with fail
  refine (Rf.right_yes _ _ t0 t1).mono ?_
  rintro e w1 ⟨rfl, rfl⟩
  go_wp2
  go_loopw [6] (fun s wr => ∃ k : Nat, s = .int .i64 k ∧ k ≤ n ∧ w = wr) (fun s _ => n - (intOf s).toNat)
  case atStart => exact ⟨0, rfl, by omega, by trivial⟩
  case round =>
    obtain ⟨k, rfl, hk, rfl⟩ := hrel
    have k0 : (0 : Int) ≤ (k : Int) := by omega
    by_cases hlt : k < n
    · obtain ⟨b, o, rfl, hbm, c1⟩ := HA.out k hlt
      have k1 : (k : Int) < (n : Int) := by omega
      go_wp2_with fail
      refine (Rf.right_yes _ _ (HF.out.1 k hlt).1 (HF.out.1 k hlt).2).mono ?_
      rintro e w1 ⟨rfl, rfl⟩
      go_wp2
      go_roundw
      case rel => exact ⟨k + 1, by go_num, by omega, by trivial⟩
      case measure => simp [intOf]; omega
    · obtain rfl : k = n := by omega
      have k1 : ¬ (k : Int) < (k : Int) := by omega
      go_wp2
      go_loopw [7, 8] (fun v s wr => ∃ (j : Nat) (x : Int), v = .int .i64 x ∧ s = .int .i64 j ∧ j ≤ k ∧ w = wr ∧ x = sumF f j ∧ 0 ≤ x ∧ x ≤ 100000000000000) (fun _ s _ => k - (intOf s).toNat)
      case atStart => exact ⟨0, 0, rfl, rfl, by omega, by trivial, rfl, by omega, by omega⟩
      case round =>
        obtain ⟨j, x, rfl, rfl, hj, rfl, hx, x0, x1⟩ := hrel
        have HX := Lib.hid hx
        clear hx
        have j0 : (0 : Int) ≤ (j : Int) := by omega
        by_cases hlt2 : j < k
        · obtain ⟨b, o, rfl, hbm, c1⟩ := HA.out j hlt2
          have j1 : (j : Int) < (k : Int) := by omega
          have hfj := HF.out.1 j hlt2
          have HS : Hid (x + f j = sumF f (j + 1)) := Lib.hid (by rw [HX.out]; rfl)
          by_cases hs : x + f j ≤ 100000000000000
          · go_wp2
            go_roundw
            case rel => exact ⟨j + 1, x + f j, by trivial, by go_num, by omega, by trivial, HS.out, by omega, hs⟩
            case measure => simp [intOf]; omega
          · have hs2 : 100000000000000 < x + f j := by omega
            go_wp2
            go_ret2
            exact ⟨rfl, rfl⟩
        · exfalso
          obtain rfl : j = k := by omega
          have := HX.out
          have := HF.out.2
          omega

end Go.Proofs.Ytmnbamfemcgloaa.Sh
