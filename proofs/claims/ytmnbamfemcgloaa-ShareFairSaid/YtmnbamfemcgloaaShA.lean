/- Contracts of package share's small functions, and of the document's Upto and Piece. -/
import Derived.Test.YtmnbamfemcgloaaDvD
import Derived.Test.YtmnbamfemcgloaaRfD
import Derived.Test.YtmnbamfemcgloaaShM
import Derived.Test.YtmnbamfemcgloaaHlA
namespace Go.Proofs.Ytmnbamfemcgloaa.Sh
open Go.ChangeShapes Go.WideShapes Go.ChangeAt Go.RowKit
open Rf (pairOf)
set_option linter.unusedVariables false

def uptoR (t n k : Int) : Int × Int := if 0 ≤ t ∧ t ≤ 100000000000000 ∧ 1 ≤ n ∧ n ≤ 100000 ∧ 0 ≤ k ∧ k ≤ n then (t * k / n, 0) else (0, 2)

def pieceR (t n a b : Int) : Int × Int := if 0 ≤ t ∧ t ≤ 100000000000000 ∧ 1 ≤ n ∧ n ≤ 100000 ∧ 0 ≤ a ∧ a ≤ b ∧ b ≤ n then (t * b / n - t * a / n, 0) else (0, 2)

theorem upto_in (t n k : Int) (t0 : 0 ≤ t) (n0 : 1 ≤ n) (k0 : 0 ≤ k) (k1 : k ≤ n) : 0 ≤ t * k / n ∧ t * k / n ≤ t := by
  refine ⟨Int.ediv_nonneg (Int.mul_nonneg t0 k0) (by omega), ?_⟩
  have h : t * k ≤ t * n := Int.mul_le_mul_of_nonneg_left k1 t0
  have h2 := Int.ediv_le_ediv (c := n) (by omega) h
  rwa [Int.mul_ediv_cancel _ (by omega)] at h2

theorem upto_mono (t n a b : Int) (t0 : 0 ≤ t) (n0 : 1 ≤ n) (h : a ≤ b) : t * a / n ≤ t * b / n :=
  Int.ediv_le_ediv (by omega) (Int.mul_le_mul_of_nonneg_left h t0)

theorem timesR_upto (t n k : Int) (t0 : 0 ≤ t) (t1 : t ≤ 100000000000000) (n0 : 1 ≤ n) (n1 : n ≤ 100000) (k0 : 0 ≤ k) (k1 : k ≤ n) : Rf.timesR 0 t k n = (t * k / n, 0) := by
  have h := upto_in t n k t0 n0 k0 k1
  exact Rf.timesR_yes 0 t k n _ ⟨⟨t0, t1⟩, ⟨k0, by omega⟩, n0, by omega, by omega, by omega⟩ (by simp [Mn.rnd]) (by omega)

theorem upto_t (t n k : Int) (w : World) (h : t < 0 ∨ 100000000000000 < t) :
    Calls Try.prog 14 #[.int .i64 t, .int .i64 n, .int .i64 k] w fun e w' => e = .returned (.tuple #[.int .i64 0, .int .i64 2]) ∧ w = w' := by
  go_enter Try.func14, Try.ntmps14
  go_wp2_with fail
  refine (Mn.right_no _ _ h).mono ?_
  rintro e w' ⟨rfl, rfl⟩
  go_wp2
  all_goals
    go_ret2
    exact ⟨rfl, rfl⟩

theorem upto_0 (t n k : Int) (w : World) (t0 : 0 ≤ t) (t1 : t ≤ 100000000000000) (h : n < 1) :
    Calls Try.prog 14 #[.int .i64 t, .int .i64 n, .int .i64 k] w fun e w' => e = .returned (.tuple #[.int .i64 0, .int .i64 2]) ∧ w = w' := by
  have d0 : decide (n < 1) = true := by simp; omega
  clear h
  go_enter Try.func14, Try.ntmps14
  go_wp2_with fail
  refine (Mn.right_yes _ _ t0 t1).mono ?_
  rintro e w' ⟨rfl, rfl⟩
  go_wp2
  all_goals
    go_ret2
    exact ⟨rfl, rfl⟩

theorem upto_1 (t n k : Int) (w : World) (t0 : 0 ≤ t) (t1 : t ≤ 100000000000000) (n0 : 1 ≤ n) (h : 100000 < n) :
    Calls Try.prog 14 #[.int .i64 t, .int .i64 n, .int .i64 k] w fun e w' => e = .returned (.tuple #[.int .i64 0, .int .i64 2]) ∧ w = w' := by
  have d0 : decide (n < 1) = false := by simp; omega
  have d1 : decide (100000 < n) = true := by simp; omega
  clear h
  go_enter Try.func14, Try.ntmps14
  go_wp2_with fail
  refine (Mn.right_yes _ _ t0 t1).mono ?_
  rintro e w' ⟨rfl, rfl⟩
  go_wp2
  all_goals
    go_ret2
    exact ⟨rfl, rfl⟩

theorem upto_2 (t n k : Int) (w : World) (t0 : 0 ≤ t) (t1 : t ≤ 100000000000000) (n0 : 1 ≤ n) (n1 : n ≤ 100000) (h : k < 0) :
    Calls Try.prog 14 #[.int .i64 t, .int .i64 n, .int .i64 k] w fun e w' => e = .returned (.tuple #[.int .i64 0, .int .i64 2]) ∧ w = w' := by
  have d0 : decide (n < 1) = false := by simp; omega
  have d1 : decide (100000 < n) = false := by simp; omega
  have d2 : decide (k < 0) = true := by simp; omega
  clear h
  go_enter Try.func14, Try.ntmps14
  go_wp2_with fail
  refine (Mn.right_yes _ _ t0 t1).mono ?_
  rintro e w' ⟨rfl, rfl⟩
  go_wp2
  all_goals
    go_ret2
    exact ⟨rfl, rfl⟩

theorem upto_3 (t n k : Int) (w : World) (t0 : 0 ≤ t) (t1 : t ≤ 100000000000000) (n0 : 1 ≤ n) (n1 : n ≤ 100000) (k0 : 0 ≤ k) (h : n < k) :
    Calls Try.prog 14 #[.int .i64 t, .int .i64 n, .int .i64 k] w fun e w' => e = .returned (.tuple #[.int .i64 0, .int .i64 2]) ∧ w = w' := by
  have d0 : decide (n < 1) = false := by simp; omega
  have d1 : decide (100000 < n) = false := by simp; omega
  have d2 : decide (k < 0) = false := by simp; omega
  have d3 : decide (n < k) = true := by simp; omega
  clear h
  go_enter Try.func14, Try.ntmps14
  go_wp2_with fail
  refine (Mn.right_yes _ _ t0 t1).mono ?_
  rintro e w' ⟨rfl, rfl⟩
  go_wp2
  all_goals
    go_ret2
    exact ⟨rfl, rfl⟩

theorem upto_ok (t n k v : Int) (w : World) (t0 : 0 ≤ t) (t1 : t ≤ 100000000000000) (n0 : 1 ≤ n) (n1 : n ≤ 100000) (k0 : 0 ≤ k) (k1 : k ≤ n)
    (HT : Hid (∀ w, Calls Try.prog 31 #[.int .i64 t, .int .i64 k, .int .i64 n, .int .i64 0] w fun e w' => e = .returned (.tuple #[.int .i64 v, .int .i64 0]) ∧ Below w.heap.size w w')) :
    Calls Try.prog 14 #[.int .i64 t, .int .i64 n, .int .i64 k] w fun e w' => e = .returned (.tuple #[.int .i64 v, .int .i64 0]) ∧ Below w.heap.size w w' := by
  have d0 : decide (n < 1) = false := by simp; omega
  have d1 : decide (100000 < n) = false := by simp; omega
  have d2 : decide (k < 0) = false := by simp; omega
  have d3 : decide (n < k) = false := by simp; omega
  go_enter Try.func14, Try.ntmps14
  go_wp2_with fail
  refine (Mn.right_yes _ _ t0 t1).mono ?_
  rintro e w' ⟨rfl, rfl⟩
  go_wp2_with fail
  refine (HT.out _).mono ?_
  rintro e w' ⟨rfl, hb⟩
  go_wp2
  all_goals
    go_ret2
    exact ⟨rfl, hb⟩

theorem upto_any (t n k : Int) (w : World) : Calls Try.prog 14 #[.int .i64 t, .int .i64 n, .int .i64 k] w fun e w' => e = pairOf (uptoR t n k) ∧ Below w.heap.size w w' := by
  have bad : ∀ {e : Ending} {w' : World}, ¬ (0 ≤ t ∧ t ≤ 100000000000000 ∧ 1 ≤ n ∧ n ≤ 100000 ∧ 0 ≤ k ∧ k ≤ n) → (e = .returned (.tuple #[.int .i64 0, .int .i64 2]) ∧ w = w') → e = pairOf (uptoR t n k) ∧ Below w.heap.size w w' := by
    rintro e w' g ⟨rfl, rfl⟩
    unfold uptoR
    rw [if_neg g]
    exact ⟨rfl, Below.refl _ _⟩
  by_cases ht : t < 0 ∨ 100000000000000 < t
  · exact (upto_t t n k w ht).mono fun e w' h => bad (by omega) h
  by_cases h1 : n < 1
  · exact (upto_0 t n k w (by omega) (by omega) h1).mono fun e w' h => bad (by omega) h
  by_cases h2 : 100000 < n
  · exact (upto_1 t n k w (by omega) (by omega) (by omega) h2).mono fun e w' h => bad (by omega) h
  by_cases h3 : k < 0
  · exact (upto_2 t n k w (by omega) (by omega) (by omega) (by omega) h3).mono fun e w' h => bad (by omega) h
  by_cases h4 : n < k
  · exact (upto_3 t n k w (by omega) (by omega) (by omega) (by omega) (by omega) h4).mono fun e w' h => bad (by omega) h
  have e : uptoR t n k = (t * k / n, 0) := by unfold uptoR; rw [if_pos ⟨by omega, by omega, by omega, by omega, by omega, by omega⟩]
  rw [e]
  refine upto_ok t n k _ w (by omega) (by omega) (by omega) (by omega) (by omega) (by omega) (Lib.hid fun w => ?_)
  have h := Rf.m_times 0 t k n w
  rw [timesR_upto t n k (by omega) (by omega) (by omega) (by omega) (by omega) (by omega)] at h
  exact h

theorem rupto_t (t n k : Int) (w : World) (h : t < 0 ∨ 100000000000000 < t) :
    Calls Try.prog 15 #[.int .i64 t, .int .i64 n, .int .i64 k] w fun e w' => e = .returned (.tuple #[.int .i64 0, .int .i64 2]) ∧ w = w' := by
  go_enter Try.func15, Try.ntmps15
  go_wp2_with fail
  refine (Rf.right_no _ _ h).mono ?_
  rintro e w' ⟨rfl, rfl⟩
  go_wp2
  all_goals
    go_ret2
    exact ⟨rfl, rfl⟩

theorem rupto_0 (t n k : Int) (w : World) (t0 : 0 ≤ t) (t1 : t ≤ 100000000000000) (h : n < 1) :
    Calls Try.prog 15 #[.int .i64 t, .int .i64 n, .int .i64 k] w fun e w' => e = .returned (.tuple #[.int .i64 0, .int .i64 2]) ∧ w = w' := by
  have d0 : decide (n < 1) = true := by simp; omega
  clear h
  go_enter Try.func15, Try.ntmps15
  go_wp2_with fail
  refine (Rf.right_yes _ _ t0 t1).mono ?_
  rintro e w' ⟨rfl, rfl⟩
  go_wp2
  all_goals
    go_ret2
    exact ⟨rfl, rfl⟩

theorem rupto_1 (t n k : Int) (w : World) (t0 : 0 ≤ t) (t1 : t ≤ 100000000000000) (n0 : 1 ≤ n) (h : 100000 < n) :
    Calls Try.prog 15 #[.int .i64 t, .int .i64 n, .int .i64 k] w fun e w' => e = .returned (.tuple #[.int .i64 0, .int .i64 2]) ∧ w = w' := by
  have d0 : decide (n < 1) = false := by simp; omega
  have d1 : decide (100000 < n) = true := by simp; omega
  clear h
  go_enter Try.func15, Try.ntmps15
  go_wp2_with fail
  refine (Rf.right_yes _ _ t0 t1).mono ?_
  rintro e w' ⟨rfl, rfl⟩
  go_wp2
  all_goals
    go_ret2
    exact ⟨rfl, rfl⟩

theorem rupto_2 (t n k : Int) (w : World) (t0 : 0 ≤ t) (t1 : t ≤ 100000000000000) (n0 : 1 ≤ n) (n1 : n ≤ 100000) (h : k < 0) :
    Calls Try.prog 15 #[.int .i64 t, .int .i64 n, .int .i64 k] w fun e w' => e = .returned (.tuple #[.int .i64 0, .int .i64 2]) ∧ w = w' := by
  have d0 : decide (n < 1) = false := by simp; omega
  have d1 : decide (100000 < n) = false := by simp; omega
  have d2 : decide (k < 0) = true := by simp; omega
  clear h
  go_enter Try.func15, Try.ntmps15
  go_wp2_with fail
  refine (Rf.right_yes _ _ t0 t1).mono ?_
  rintro e w' ⟨rfl, rfl⟩
  go_wp2
  all_goals
    go_ret2
    exact ⟨rfl, rfl⟩

theorem rupto_3 (t n k : Int) (w : World) (t0 : 0 ≤ t) (t1 : t ≤ 100000000000000) (n0 : 1 ≤ n) (n1 : n ≤ 100000) (k0 : 0 ≤ k) (h : n < k) :
    Calls Try.prog 15 #[.int .i64 t, .int .i64 n, .int .i64 k] w fun e w' => e = .returned (.tuple #[.int .i64 0, .int .i64 2]) ∧ w = w' := by
  have d0 : decide (n < 1) = false := by simp; omega
  have d1 : decide (100000 < n) = false := by simp; omega
  have d2 : decide (k < 0) = false := by simp; omega
  have d3 : decide (n < k) = true := by simp; omega
  clear h
  go_enter Try.func15, Try.ntmps15
  go_wp2_with fail
  refine (Rf.right_yes _ _ t0 t1).mono ?_
  rintro e w' ⟨rfl, rfl⟩
  go_wp2
  all_goals
    go_ret2
    exact ⟨rfl, rfl⟩

theorem rupto_ok (t n k v : Int) (w : World) (t0 : 0 ≤ t) (t1 : t ≤ 100000000000000) (n0 : 1 ≤ n) (n1 : n ≤ 100000) (k0 : 0 ≤ k) (k1 : k ≤ n)
    (HT : Hid (∀ w, Calls Try.prog 32 #[.int .i64 t, .int .i64 k, .int .i64 n, .int .i64 0] w fun e w' => e = .returned (.tuple #[.int .i64 v, .int .i64 0]) ∧ Below w.heap.size w w')) :
    Calls Try.prog 15 #[.int .i64 t, .int .i64 n, .int .i64 k] w fun e w' => e = .returned (.tuple #[.int .i64 v, .int .i64 0]) ∧ Below w.heap.size w w' := by
  have d0 : decide (n < 1) = false := by simp; omega
  have d1 : decide (100000 < n) = false := by simp; omega
  have d2 : decide (k < 0) = false := by simp; omega
  have d3 : decide (n < k) = false := by simp; omega
  go_enter Try.func15, Try.ntmps15
  go_wp2_with fail
  refine (Rf.right_yes _ _ t0 t1).mono ?_
  rintro e w' ⟨rfl, rfl⟩
  go_wp2_with fail
  refine (HT.out _).mono ?_
  rintro e w' ⟨rfl, hb⟩
  go_wp2
  all_goals
    go_ret2
    exact ⟨rfl, hb⟩

theorem rupto_any (t n k : Int) (w : World) : Calls Try.prog 15 #[.int .i64 t, .int .i64 n, .int .i64 k] w fun e w' => e = pairOf (uptoR t n k) ∧ Below w.heap.size w w' := by
  have bad : ∀ {e : Ending} {w' : World}, ¬ (0 ≤ t ∧ t ≤ 100000000000000 ∧ 1 ≤ n ∧ n ≤ 100000 ∧ 0 ≤ k ∧ k ≤ n) → (e = .returned (.tuple #[.int .i64 0, .int .i64 2]) ∧ w = w') → e = pairOf (uptoR t n k) ∧ Below w.heap.size w w' := by
    rintro e w' g ⟨rfl, rfl⟩
    unfold uptoR
    rw [if_neg g]
    exact ⟨rfl, Below.refl _ _⟩
  by_cases ht : t < 0 ∨ 100000000000000 < t
  · exact (rupto_t t n k w ht).mono fun e w' h => bad (by omega) h
  by_cases h1 : n < 1
  · exact (rupto_0 t n k w (by omega) (by omega) h1).mono fun e w' h => bad (by omega) h
  by_cases h2 : 100000 < n
  · exact (rupto_1 t n k w (by omega) (by omega) (by omega) h2).mono fun e w' h => bad (by omega) h
  by_cases h3 : k < 0
  · exact (rupto_2 t n k w (by omega) (by omega) (by omega) (by omega) h3).mono fun e w' h => bad (by omega) h
  by_cases h4 : n < k
  · exact (rupto_3 t n k w (by omega) (by omega) (by omega) (by omega) (by omega) h4).mono fun e w' h => bad (by omega) h
  have e : uptoR t n k = (t * k / n, 0) := by unfold uptoR; rw [if_pos ⟨by omega, by omega, by omega, by omega, by omega, by omega⟩]
  rw [e]
  refine rupto_ok t n k _ w (by omega) (by omega) (by omega) (by omega) (by omega) (by omega) (Lib.hid fun w => ?_)
  have h := Rf.r_times 0 t k n w
  rw [timesR_upto t n k (by omega) (by omega) (by omega) (by omega) (by omega) (by omega)] at h
  exact h

theorem upto_is (t n k : Int) (w : World) (t0 : 0 ≤ t) (t1 : t ≤ 100000000000000) (n0 : 1 ≤ n) (n1 : n ≤ 100000) (k0 : 0 ≤ k) (k1 : k ≤ n) :
    Calls Try.prog 14 #[.int .i64 t, .int .i64 n, .int .i64 k] w fun e w' => e = .returned (.tuple #[.int .i64 (t * k / n), .int .i64 0]) ∧ Below w.heap.size w w' := by
  have h := upto_any t n k w
  unfold uptoR at h
  rw [if_pos ⟨t0, t1, n0, n1, k0, k1⟩] at h
  exact h

theorem upto_not (t n k : Int) (w : World) (g : ¬ (0 ≤ t ∧ t ≤ 100000000000000 ∧ 1 ≤ n ∧ n ≤ 100000 ∧ 0 ≤ k ∧ k ≤ n)) :
    Calls Try.prog 14 #[.int .i64 t, .int .i64 n, .int .i64 k] w fun e w' => e = .returned (.tuple #[.int .i64 0, .int .i64 2]) ∧ Below w.heap.size w w' := by
  have h := upto_any t n k w
  unfold uptoR at h
  rw [if_neg g] at h
  exact h

theorem rupto_is (t n k : Int) (w : World) (t0 : 0 ≤ t) (t1 : t ≤ 100000000000000) (n0 : 1 ≤ n) (n1 : n ≤ 100000) (k0 : 0 ≤ k) (k1 : k ≤ n) :
    Calls Try.prog 15 #[.int .i64 t, .int .i64 n, .int .i64 k] w fun e w' => e = .returned (.tuple #[.int .i64 (t * k / n), .int .i64 0]) ∧ Below w.heap.size w w' := by
  have h := rupto_any t n k w
  unfold uptoR at h
  rw [if_pos ⟨t0, t1, n0, n1, k0, k1⟩] at h
  exact h

theorem rupto_not (t n k : Int) (w : World) (g : ¬ (0 ≤ t ∧ t ≤ 100000000000000 ∧ 1 ≤ n ∧ n ≤ 100000 ∧ 0 ≤ k ∧ k ≤ n)) :
    Calls Try.prog 15 #[.int .i64 t, .int .i64 n, .int .i64 k] w fun e w' => e = .returned (.tuple #[.int .i64 0, .int .i64 2]) ∧ Below w.heap.size w w' := by
  have h := rupto_any t n k w
  unfold uptoR at h
  rw [if_neg g] at h
  exact h

theorem piece_is (t n a b : Int) (w : World) (t0 : 0 ≤ t) (t1 : t ≤ 100000000000000) (n0 : 1 ≤ n) (n1 : n ≤ 100000) (a0 : 0 ≤ a) (ab : a ≤ b) (b1 : b ≤ n) :
    Calls Try.prog 16 #[.int .i64 t, .int .i64 n, .int .i64 a, .int .i64 b] w fun e w' => e = .returned (.tuple #[.int .i64 (t * b / n - t * a / n), .int .i64 0]) ∧ Below w.heap.size w w' := by
  have d0 : decide (b < a) = false := by simp; omega
  have U1 := Lib.hid (fun w => upto_is t n b w t0 t1 n0 n1 (by omega) b1)
  have U2 := Lib.hid (fun w => upto_is t n a w t0 t1 n0 n1 a0 (by omega))
  have i1 := upto_in t n b t0 n0 (by omega) b1
  have i2 := upto_in t n a t0 n0 a0 (by omega)
  have i3 := upto_mono t n a b t0 n0 ab
  have HS := Lib.hid (fun w => Mn.sub_ok (t * b / n) (t * a / n) w i1.1 (by omega) i2.1 (by omega) i3)
  generalize t * b / n = x at *
  generalize t * a / n = y at *
  go_enter Try.func16, Try.ntmps16
  go_wp2_with fail
  refine (U1.out _).mono ?_
  rintro e w1 ⟨rfl, hb1⟩
  go_wp2_with fail
  refine (U2.out _).mono ?_
  rintro e w2 ⟨rfl, hb2⟩
  go_wp2_with fail
  refine (HS.out _).mono ?_
  rintro e w3 ⟨rfl, rfl⟩
  go_wp2
  all_goals
    go_ret2
    exact ⟨rfl, Hk.andThen hb1 hb2⟩

theorem piece_gt (t n a b : Int) (w : World) (h : b < a) :
    Calls Try.prog 16 #[.int .i64 t, .int .i64 n, .int .i64 a, .int .i64 b] w fun e w' => e = .returned (.tuple #[.int .i64 0, .int .i64 2]) ∧ Below w.heap.size w w' := by
  have d0 : decide (b < a) = true := by simp; omega
  clear h
  go_enter Try.func16, Try.ntmps16
  go_wp2
  all_goals
    go_ret2
    exact ⟨rfl, Below.refl _ _⟩

theorem piece_b (t n a b : Int) (w : World) (ab : a ≤ b) (g : ¬ (0 ≤ t ∧ t ≤ 100000000000000 ∧ 1 ≤ n ∧ n ≤ 100000 ∧ 0 ≤ b ∧ b ≤ n)) :
    Calls Try.prog 16 #[.int .i64 t, .int .i64 n, .int .i64 a, .int .i64 b] w fun e w' => e = .returned (.tuple #[.int .i64 0, .int .i64 2]) ∧ Below w.heap.size w w' := by
  have d0 : decide (b < a) = false := by simp; omega
  have U1 := Lib.hid (fun w => upto_not t n b w g)
  clear g
  go_enter Try.func16, Try.ntmps16
  go_wp2_with fail
  refine (U1.out _).mono ?_
  rintro e w1 ⟨rfl, hb1⟩
  go_wp2
  all_goals
    go_ret2
    exact ⟨rfl, hb1⟩

theorem piece_a (t n a b : Int) (w : World) (t0 : 0 ≤ t) (t1 : t ≤ 100000000000000) (n0 : 1 ≤ n) (n1 : n ≤ 100000) (b0 : 0 ≤ b) (b1 : b ≤ n) (ab : a ≤ b) (h : a < 0) :
    Calls Try.prog 16 #[.int .i64 t, .int .i64 n, .int .i64 a, .int .i64 b] w fun e w' => e = .returned (.tuple #[.int .i64 0, .int .i64 2]) ∧ Below w.heap.size w w' := by
  have d0 : decide (b < a) = false := by simp; omega
  have U1 := Lib.hid (fun w => upto_is t n b w t0 t1 n0 n1 b0 b1)
  have U2 := Lib.hid (fun w => upto_not t n a w (by omega))
  generalize t * b / n = x at *
  clear h
  go_enter Try.func16, Try.ntmps16
  go_wp2_with fail
  refine (U1.out _).mono ?_
  rintro e w1 ⟨rfl, hb1⟩
  go_wp2_with fail
  refine (U2.out _).mono ?_
  rintro e w2 ⟨rfl, hb2⟩
  go_wp2
  all_goals
    go_ret2
    exact ⟨rfl, Hk.andThen hb1 hb2⟩

theorem piece_any (t n a b : Int) (w : World) : Calls Try.prog 16 #[.int .i64 t, .int .i64 n, .int .i64 a, .int .i64 b] w fun e w' => e = pairOf (pieceR t n a b) ∧ Below w.heap.size w w' := by
  unfold pieceR
  by_cases g : 0 ≤ t ∧ t ≤ 100000000000000 ∧ 1 ≤ n ∧ n ≤ 100000 ∧ 0 ≤ a ∧ a ≤ b ∧ b ≤ n
  · rw [if_pos g]
    exact piece_is t n a b w g.1 g.2.1 g.2.2.1 g.2.2.2.1 g.2.2.2.2.1 g.2.2.2.2.2.1 g.2.2.2.2.2.2
  · rw [if_neg g]
    by_cases h1 : b < a
    · exact piece_gt t n a b w h1
    by_cases h2 : 0 ≤ t ∧ t ≤ 100000000000000 ∧ 1 ≤ n ∧ n ≤ 100000 ∧ 0 ≤ b ∧ b ≤ n
    · exact piece_a t n a b w h2.1 h2.2.1 h2.2.2.1 h2.2.2.2.1 h2.2.2.2.2.1 h2.2.2.2.2.2 (by omega) (by omega)
    · exact piece_b t n a b w (by omega) h2

theorem rpiece_is (t n a b : Int) (w : World) (t0 : 0 ≤ t) (t1 : t ≤ 100000000000000) (n0 : 1 ≤ n) (n1 : n ≤ 100000) (a0 : 0 ≤ a) (ab : a ≤ b) (b1 : b ≤ n) :
    Calls Try.prog 17 #[.int .i64 t, .int .i64 n, .int .i64 a, .int .i64 b] w fun e w' => e = .returned (.tuple #[.int .i64 (t * b / n - t * a / n), .int .i64 0]) ∧ Below w.heap.size w w' := by
  have d0 : decide (b < a) = false := by simp; omega
  have d1 : decide (a < 0) = false := by simp; omega
  have U1 := Lib.hid (fun w => rupto_is t n b w t0 t1 n0 n1 (by omega) b1)
  have U2 := Lib.hid (fun w => rupto_is t n a w t0 t1 n0 n1 a0 (by omega))
  have i1 := upto_in t n b t0 n0 (by omega) b1
  have i2 := upto_in t n a t0 n0 a0 (by omega)
  have i3 := upto_mono t n a b t0 n0 ab
  generalize t * b / n = x at *
  generalize t * a / n = y at *
  go_enter Try.func17, Try.ntmps17
  go_wp2_with fail
  refine (U1.out _).mono ?_
  rintro e w1 ⟨rfl, hb1⟩
  go_wp2_with fail
  refine (U2.out _).mono ?_
  rintro e w2 ⟨rfl, hb2⟩
  go_wp2
  all_goals
    go_ret2
    exact ⟨rfl, Hk.andThen hb1 hb2⟩

theorem rpiece_gt (t n a b : Int) (w : World) (h : a < 0 ∨ b < a) :
    Calls Try.prog 17 #[.int .i64 t, .int .i64 n, .int .i64 a, .int .i64 b] w fun e w' => e = .returned (.tuple #[.int .i64 0, .int .i64 2]) ∧ Below w.heap.size w w' := by
  by_cases ha : a < 0
  · have d1 : decide (a < 0) = true := by simp; omega
    clear h ha
    go_enter Try.func17, Try.ntmps17
    go_wp2
    all_goals
      go_ret2
      exact ⟨rfl, Below.refl _ _⟩
  · have d1 : decide (a < 0) = false := by simp; omega
    have d0 : decide (b < a) = true := by simp; omega
    clear h ha
    go_enter Try.func17, Try.ntmps17
    go_wp2
    all_goals
      go_ret2
      exact ⟨rfl, Below.refl _ _⟩

theorem rpiece_b (t n a b : Int) (w : World) (a0 : 0 ≤ a) (ab : a ≤ b) (g : ¬ (0 ≤ t ∧ t ≤ 100000000000000 ∧ 1 ≤ n ∧ n ≤ 100000 ∧ 0 ≤ b ∧ b ≤ n)) :
    Calls Try.prog 17 #[.int .i64 t, .int .i64 n, .int .i64 a, .int .i64 b] w fun e w' => e = .returned (.tuple #[.int .i64 0, .int .i64 2]) ∧ Below w.heap.size w w' := by
  have d1 : decide (a < 0) = false := by simp; omega
  have d0 : decide (b < a) = false := by simp; omega
  have U1 := Lib.hid (fun w => rupto_not t n b w g)
  clear g
  go_enter Try.func17, Try.ntmps17
  go_wp2_with fail
  refine (U1.out _).mono ?_
  rintro e w1 ⟨rfl, hb1⟩
  go_wp2
  all_goals
    go_ret2
    exact ⟨rfl, hb1⟩

theorem rpiece_any (t n a b : Int) (w : World) : Calls Try.prog 17 #[.int .i64 t, .int .i64 n, .int .i64 a, .int .i64 b] w fun e w' => e = pairOf (pieceR t n a b) ∧ Below w.heap.size w w' := by
  unfold pieceR
  by_cases g : 0 ≤ t ∧ t ≤ 100000000000000 ∧ 1 ≤ n ∧ n ≤ 100000 ∧ 0 ≤ a ∧ a ≤ b ∧ b ≤ n
  · rw [if_pos g]
    exact rpiece_is t n a b w g.1 g.2.1 g.2.2.1 g.2.2.2.1 g.2.2.2.2.1 g.2.2.2.2.2.1 g.2.2.2.2.2.2
  · rw [if_neg g]
    by_cases h1 : a < 0 ∨ b < a
    · exact rpiece_gt t n a b w h1
    · exact rpiece_b t n a b w (by omega) (by omega) (by omega)

end Go.Proofs.Ytmnbamfemcgloaa.Sh
