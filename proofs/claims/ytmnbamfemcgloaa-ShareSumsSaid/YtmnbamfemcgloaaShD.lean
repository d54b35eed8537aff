/- Contract of package share's Largest. -/
import Derived.Test.YtmnbamfemcgloaaShC
namespace Go.Proofs.Ytmnbamfemcgloaa.Sh
open Go.ChangeShapes Go.WideShapes Go.ChangeAt Go.RowKit
open Qu (Blk IsQ Moved Pt ord)
set_option linter.unusedVariables false

/-- A list and an Errno. -/
def Gave (e : Ending) (w w' : World) (p : List Int × Int) : Prop := ∃ A c, e = .returned (.tuple #[.slice A p.1.length c, .int .i64 p.2]) ∧ Hl.Ints w' w'.heap.size A p.1.length (nth p.1) ∧ Below w.heap.size w w'

theorem Gave.nil (w w' : World) (x : Int) (h : Below w.heap.size w w') : Gave (.returned (.tuple #[.slice none 0 0, .int .i64 x])) w w' ([], x) := ⟨none, 0, rfl, fun k hk => by simp at hk, h⟩

theorem Gave.row {w w' : World} {g n : Nat} {l : List Int} (hl : l.length = n) (h : RowAt w' g l) (hb : Below w.heap.size w w') : Gave (.returned (.tuple #[.slice (some ⟨g, 0, none⟩) n n, .int .i64 0])) w w' (l, 0) := by
  subst hl
  exact ⟨_, _, rfl, h.ints, hb⟩

theorem lg_t (t : Int) (A : Option Addr) (n c : Nat) (w : World) (h : t < 0 ∨ 100000000000000 < t) :
    Calls Try.prog 12 #[.int .i64 t, .slice A n c] w fun e w' => e = .returned (.tuple #[.slice none 0 0, .int .i64 2]) ∧ w = w' := by
  go_enter Try.func12, Try.ntmps12
  go_wp2_with fail
  refine (Mn.right_no _ _ h).mono ?_
  rintro e w1 ⟨rfl, rfl⟩
  go_wp2
  all_goals
    go_ret2
    exact ⟨rfl, rfl⟩

theorem lg_w (t : Int) (A : Option Addr) (n c : Nat) (f : Nat → Int) (w : World) (ha : Hl.Ints w w.heap.size A n f) (t0 : 0 ≤ t) (t1 : t ≤ 100000000000000) (h : (decide (n ≤ 100000) && allOk f n) = false) :
    Calls Try.prog 12 #[.int .i64 t, .slice A n c] w fun e w' => e = .returned (.tuple #[.slice none 0 0, .int .i64 2]) ∧ w = w' := by
  have HR := Lib.hid (allRight_any A n c f _ w ha)
  rw [h] at HR
  clear ha h
  go_enter Try.func12, Try.ntmps12
  go_wp2_with fail
  refine (Mn.right_yes _ _ t0 t1).mono ?_
  rintro e w1 ⟨rfl, rfl⟩
  go_wp2_with fail
  refine HR.out.mono ?_
  rintro e w2 ⟨rfl, rfl⟩
  go_wp2
  all_goals
    go_ret2
    exact ⟨rfl, rfl⟩

theorem lg_over (t : Int) (A : Option Addr) (n c : Nat) (f : Nat → Int) (w : World) (ha : Hl.Ints w w.heap.size A n f) (t0 : 0 ≤ t) (t1 : t ≤ 100000000000000) (hn : n ≤ 100000) (hf : ∀ k, k < n → 0 ≤ f k ∧ f k ≤ 100000000000000) (h : 100000000000000 < sumF f n) :
    Calls Try.prog 12 #[.int .i64 t, .slice A n c] w fun e w' => e = .returned (.tuple #[.slice none 0 0, .int .i64 5]) ∧ w = w' := by
  have HR := Lib.hid (allRight_any A n c f _ w ha)
  have e1 : (decide (n ≤ 100000) && allOk f n) = true := by rw [Bool.and_eq_true, decide_eq_true_eq, allOk_iff]; exact ⟨hn, hf⟩
  rw [e1] at HR
  have HA := Lib.hid (added_any A n c f _ w ha hn hf)
  have e2 : addedR f n = (0, 5) := by unfold addedR; rw [if_neg (by omega)]
  rw [e2] at HA
  clear ha h e1 e2 hf
  unfold Rf.pairOf at HA
  go_enter Try.func12, Try.ntmps12
  go_wp2_with fail
  refine (Mn.right_yes _ _ t0 t1).mono ?_
  rintro e w1 ⟨rfl, rfl⟩
  go_wp2_with fail
  refine HR.out.mono ?_
  rintro e w2 ⟨rfl, rfl⟩
  go_wp2_with fail
  refine HA.out.mono ?_
  rintro e w3 ⟨rfl, rfl⟩
  go_wp2
  all_goals
    go_ret2
    exact ⟨rfl, rfl⟩

theorem lg_none (t : Int) (A : Option Addr) (n c : Nat) (f : Nat → Int) (w : World) (ha : Hl.Ints w w.heap.size A n f) (t0 : 0 < t) (t1 : t ≤ 100000000000000) (hn : n ≤ 100000) (hf : ∀ k, k < n → 0 ≤ f k ∧ f k ≤ 100000000000000) (h : sumF f n = 0) :
    Calls Try.prog 12 #[.int .i64 t, .slice A n c] w fun e w' => e = .returned (.tuple #[.slice none 0 0, .int .i64 7]) ∧ w = w' := by
  have HR := Lib.hid (allRight_any A n c f _ w ha)
  have e1 : (decide (n ≤ 100000) && allOk f n) = true := by rw [Bool.and_eq_true, decide_eq_true_eq, allOk_iff]; exact ⟨hn, hf⟩
  rw [e1] at HR
  have HA := Lib.hid (added_any A n c f _ w ha hn hf)
  have e2 : addedR f n = (0, 0) := by unfold addedR; rw [h]; rfl
  rw [e2] at HA
  clear ha h e1 e2 hf
  unfold Rf.pairOf at HA
  go_enter Try.func12, Try.ntmps12
  go_wp2_with fail
  refine (Mn.right_yes _ _ (by omega) t1).mono ?_
  rintro e w1 ⟨rfl, rfl⟩
  go_wp2_with fail
  refine HR.out.mono ?_
  rintro e w2 ⟨rfl, rfl⟩
  go_wp2_with fail
  refine HA.out.mono ?_
  rintro e w3 ⟨rfl, rfl⟩
  go_wp2
  all_goals
    go_ret2
    exact ⟨rfl, rfl⟩

theorem lg_zero (A : Option Addr) (n c : Nat) (f : Nat → Int) (w : World) (ha : Hl.Ints w w.heap.size A n f) (hn : n ≤ 100000) (hf : ∀ k, k < n → 0 ≤ f k ∧ f k ≤ 100000000000000) (h : sumF f n = 0) :
    Calls Try.prog 12 #[.int .i64 0, .slice A n c] w fun e w' => Gave e w w' (List.replicate n 0, 0) := by
  have HR := Lib.hid (allRight_any A n c f _ w ha)
  have e1 : (decide (n ≤ 100000) && allOk f n) = true := by rw [Bool.and_eq_true, decide_eq_true_eq, allOk_iff]; exact ⟨hn, hf⟩
  rw [e1] at HR
  have HA := Lib.hid (added_any A n c f _ w ha hn hf)
  have e2 : addedR f n = (0, 0) := by unfold addedR; rw [h]; rfl
  rw [e2] at HA
  have hmk := make_row n (by omega)
  have HG := Lib.hid (Gave.row (w := w) (n := n) (l := List.replicate n 0) (by simp) (RowAt.made w n) ((Below.refl _ _).alloc (Nat.le_refl _) _))
  clear ha h e1 e2 hf
  unfold Rf.pairOf at HA
  go_enter Try.func12, Try.ntmps12
  go_wp2_with fail
  refine (Mn.right_yes _ _ (by omega) (by omega)).mono ?_
  rintro e w1 ⟨rfl, rfl⟩
  go_wp2_with fail
  refine HR.out.mono ?_
  rintro e w2 ⟨rfl, rfl⟩
  go_wp2_with fail
  refine HA.out.mono ?_
  rintro e w3 ⟨rfl, rfl⟩
  go_wp2
  all_goals
    go_ret2
    exact HG.out

theorem lg_parts (t : Int) (A : Option Addr) (n c : Nat) (f : Nat → Int) (w : World) (ha : Hl.Ints w w.heap.size A n f) (t0 : 0 ≤ t) (t1 : t ≤ 100000000000000) (hn : n ≤ 100000) (hf : ∀ k, k < n → 0 ≤ f k ∧ f k ≤ 100000000000000) (h : 1 ≤ sumF f n) (h1 : sumF f n ≤ 100000000000000) :
    Calls Try.prog 12 #[.int .i64 t, .slice A n c] w fun e w' => Gave e w w' (parts t (sumF f n) f n, 0) := by
  have HR := Lib.hid (allRight_any A n c f _ w ha)
  have e1 : (decide (n ≤ 100000) && allOk f n) = true := by rw [Bool.and_eq_true, decide_eq_true_eq, allOk_iff]; exact ⟨hn, hf⟩
  rw [e1] at HR
  have HA := Lib.hid (added_any A n c f _ w ha hn hf)
  have e2 : addedR f n = (sumF f n, 0) := by unfold addedR; rw [if_pos h1]
  rw [e2] at HA
  have HD := Lib.hid (divide_any t (sumF f n) A n c f w ha hn t0 t1 h h1 rfl (fun k hk => ⟨(hf k hk).1, sumF_elem n k hk (fun j hj => (hf j hj).1)⟩))
  have HL := Lib.hid (parts_length (t := t) (S := sumF f n) (f := f) (n := n))
  clear ha e1 e2 hf
  unfold Rf.pairOf at HA
  generalize parts t (sumF f n) f n = l at *
  generalize sumF f n = S at *
  go_enter Try.func12, Try.ntmps12
  go_wp2_with fail
  refine (Mn.right_yes _ _ t0 t1).mono ?_
  rintro e w1 ⟨rfl, rfl⟩
  go_wp2_with fail
  refine HR.out.mono ?_
  rintro e w2 ⟨rfl, rfl⟩
  go_wp2_with fail
  refine HA.out.mono ?_
  rintro e w3 ⟨rfl, rfl⟩
  go_wp2_with fail
  refine HD.out.mono ?_
  rintro e w4 ⟨g, rfl, hr, hb⟩
  have HG := Lib.hid (Gave.row HL.out hr hb)
  clear hr hb
  go_wp2
  all_goals
    go_ret2
    exact HG.out

theorem largest_any (t : Int) (A : Option Addr) (n c : Nat) (f : Nat → Int) (w : World) (ha : Hl.Ints w w.heap.size A n f) :
    Calls Try.prog 12 #[.int .i64 t, .slice A n c] w fun e w' => Gave e w w' (largR t f n) := by
  by_cases ht : 0 ≤ t ∧ t ≤ 100000000000000
  · cases hb : (decide (n ≤ 100000) && allOk f n) with
    | false =>
      have e : largR t f n = ([], 2) := by unfold largR; rw [if_neg]; rw [Bool.and_assoc, hb]; simp
      rw [e]
      refine (lg_w t A n c f w ha ht.1 ht.2 hb).mono ?_
      rintro e w' ⟨rfl, rfl⟩
      exact Gave.nil _ _ _ (Below.refl _ _)
    | true =>
      rw [Bool.and_eq_true, decide_eq_true_eq, allOk_iff] at hb
      obtain ⟨hn, hf⟩ := hb
      by_cases h5 : 100000000000000 < sumF f n
      · rw [larg_over ht hn hf h5]
        refine (lg_over t A n c f w ha ht.1 ht.2 hn hf h5).mono ?_
        rintro e w' ⟨rfl, rfl⟩
        exact Gave.nil _ _ _ (Below.refl _ _)
      by_cases h0 : sumF f n = 0
      · by_cases hp : 0 < t
        · rw [larg_none ht hn hf h0 hp]
          refine (lg_none t A n c f w ha hp ht.2 hn hf h0).mono ?_
          rintro e w' ⟨rfl, rfl⟩
          exact Gave.nil _ _ _ (Below.refl _ _)
        · rw [larg_zero ht hn hf h0 hp]
          obtain rfl : t = 0 := by omega
          exact lg_zero A n c f w ha hn hf h0
      · rw [larg_parts ht hn hf h0 (by omega)]
        have := sumF_nonneg (f := f) n (fun k hk => (hf k hk).1)
        exact lg_parts t A n c f w ha ht.1 ht.2 hn hf (by omega) (by omega)
  · rw [larg_bad t f n (Or.inl ht)]
    refine (lg_t t A n c w (by omega)).mono ?_
    rintro e w' ⟨rfl, rfl⟩
    exact Gave.nil _ _ _ (Below.refl _ _)

end Go.Proofs.Ytmnbamfemcgloaa.Sh
