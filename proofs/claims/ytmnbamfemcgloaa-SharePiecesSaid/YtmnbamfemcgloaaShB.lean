/- Contracts of package share's inner functions but divide: allRight, added, portion; rows of numbers in memory. -/
import Derived.Test.YtmnbamfemcgloaaShA
import Derived.Test.YtmnbamfemcgloaaQuT
import Derived.Laws.OwnMore
namespace Go.Proofs.Ytmnbamfemcgloaa.Sh
open Go.ChangeShapes Go.WideShapes Go.ChangeAt Go.RowKit
open Qu (Blk IsQ Moved Pt ord)
set_option linter.unusedVariables false

theorem allOk_no (f : Nat → Int) (n k : Nat) (hk : k < n) (h : ¬ (0 ≤ f k ∧ f k ≤ 100000000000000)) : allOk f n = false := by
  cases hb : allOk f n with
  | false => rfl
  | true => exact absurd ((allOk_iff f n).1 hb k hk) h

theorem allRight_any (A : Option Addr) (n c : Nat) (f : Nat → Int) (M : Nat) (w : World) (ha : Hl.Ints w M A n f) :
    Calls Try.prog 25 #[.slice A n c] w fun e w' => e = .returned (.bool (decide (n ≤ 100000) && allOk f n)) ∧ w = w' := by
  by_cases hn : n ≤ 100000
  · have n1 : (n : Int) ≤ 100000 := by omega
    have HN := Lib.hid hn
    clear hn
    go_enter Try.func25, Try.ntmps25
    go_wp2
    go_loopw [10] (fun s wr => ∃ k : Nat, s = .int .i64 k ∧ k ≤ n ∧ w = wr ∧ ∀ j, j < k → 0 ≤ f j ∧ f j ≤ 100000000000000) (fun s _ => n - (intOf s).toNat)
    case atStart => exact ⟨0, rfl, by omega, rfl, fun j hj => by omega⟩
    case round =>
      obtain ⟨k, rfl, hk, rfl, hE⟩ := hrel
      have HE := Lib.hid hE
      clear hE
      by_cases hlt : k < n
      · obtain ⟨b, o, rfl, hbm, c1⟩ := ha k hlt
        have k0 : (0 : Int) ≤ (k : Int) := by omega
        have k1 : (k : Int) < (n : Int) := by omega
        have HA := Lib.hid ha
        clear ha
        by_cases hx : 0 ≤ f k ∧ f k ≤ 100000000000000
        · have HX := Lib.hid hx
          clear hx
          go_wp2_with fail
          refine (Mn.right_yes _ _ HX.out.1 HX.out.2).mono ?_
          rintro e w1 ⟨rfl, rfl⟩
          go_wp2
          go_roundw
          case rel => exact ⟨k + 1, by go_num, by omega, by trivial, fun j hj => by
            rcases Nat.lt_or_ge j k with h | h
            · exact HE.out j h
            · have : j = k := by omega
              subst this; exact HX.out⟩
          case measure => simp [intOf]; omega
        · have HX := Lib.hid (show f k < 0 ∨ 100000000000000 < f k by omega)
          have HF := Lib.hid (allOk_no f n k hlt hx)
          clear hx
          go_wp2_with fail
          refine (Mn.right_no _ _ HX.out).mono ?_
          rintro e w1 ⟨rfl, rfl⟩
          go_wp2
          go_ret
          exact ⟨by rw [HF.out, Bool.and_false]; rfl, rfl⟩
      · have HF : Hid ((decide (n ≤ 100000) && allOk f n) = true) := Lib.hid (by
          rw [Bool.and_eq_true, decide_eq_true_eq, allOk_iff]
          exact ⟨HN.out, fun j hj => HE.out j (by omega)⟩)
        have k1 : ¬ (k : Int) < (n : Int) := by omega
        go_wp2
        go_ret
        exact ⟨by rw [HF.out]; rfl, rfl⟩
  · have n1 : ¬ (n : Int) ≤ 100000 := by omega
    have n2 : (100000 : Int) < (n : Int) := by omega
    have HF : Hid ((decide (n ≤ 100000) && allOk f n) = false) := Lib.hid (by simp [hn])
    clear hn
    go_enter Try.func25, Try.ntmps25
    go_wp2
    go_ret
    exact ⟨by rw [HF.out]; rfl, rfl⟩

def addedR (f : Nat → Int) (n : Nat) : Int × Int := if sumF f n ≤ 100000000000000 then (sumF f n, 0) else (0, 5)

theorem added_any (A : Option Addr) (n c : Nat) (f : Nat → Int) (M : Nat) (w : World) (ha : Hl.Ints w M A n f) (hn : n ≤ 100000) (hf : ∀ k, k < n → 0 ≤ f k ∧ f k ≤ 100000000000000) :
    Calls Try.prog 26 #[.slice A n c] w fun e w' => e = Rf.pairOf (addedR f n) ∧ w = w' := by
  have n1 : (n : Int) ≤ 100000 := by omega
  have HF := Lib.hid hf
  clear hf
  unfold Rf.pairOf
  go_enter Try.func26, Try.ntmps26
  go_wp2
  go_loopw [4, 11] (fun v s wr => ∃ (k : Nat) (x : Int), v = .int .i64 x ∧ s = .int .i64 k ∧ k ≤ n ∧ w = wr ∧ x = sumF f k ∧ 0 ≤ x ∧ x ≤ 100000000000000) (fun _ s _ => n - (intOf s).toNat)
  case atStart => exact ⟨0, 0, rfl, rfl, by omega, rfl, rfl, by omega, by omega⟩
  case round =>
    obtain ⟨k, x, rfl, rfl, hk, rfl, hx, x0, x1⟩ := hrel
    have HX := Lib.hid hx
    clear hx
    by_cases hlt : k < n
    · obtain ⟨b, o, rfl, hbm, c1⟩ := ha k hlt
      have k0 : (0 : Int) ≤ (k : Int) := by omega
      have k1 : (k : Int) < (n : Int) := by omega
      have HA := Lib.hid ha
      have HS : Hid (sumF f (k + 1) = x + f k) := Lib.hid (by rw [HX.out]; rfl)
      clear ha
      by_cases hs : x + f k ≤ 100000000000000
      · have HY := Lib.hid hs
        clear hs
        go_wp2_with fail
        refine (Mn.add_ok _ _ _ x0 x1 (HF.out k hlt).1 (HF.out k hlt).2 HY.out).mono ?_
        rintro e w1 ⟨rfl, rfl⟩
        go_wp2
        go_roundw
        case rel => exact ⟨k + 1, x + f k, by trivial, by go_num, by omega, by trivial, HS.out.symm, by have := (HF.out k hlt).1; omega, HY.out⟩
        case measure => simp [intOf]; omega
      · have HY := Lib.hid (show 100000000000000 < x + f k by omega)
        have HR : Hid (addedR f n = (0, 5)) := Lib.hid (by
          unfold addedR
          rw [if_neg]
          have := sumF_le (f := f) (k + 1) n (by omega) (fun j hj => (HF.out j hj).1)
          have := HS.out
          omega)
        clear hs
        go_wp2_with fail
        refine (Mn.add_over _ _ _ x0 x1 (HF.out k hlt).1 (HF.out k hlt).2 HY.out).mono ?_
        rintro e w1 ⟨rfl, rfl⟩
        go_wp2
        go_ret2
        exact ⟨by rw [HR.out]; rfl, rfl⟩
    · obtain rfl : k = n := by omega
      have HR : Hid (addedR f k = (x, 0)) := Lib.hid (by unfold addedR; rw [← HX.out, if_pos x1])
      have k1 : ¬ (k : Int) < (k : Int) := by omega
      go_wp2
      go_ret2
      exact ⟨by rw [HR.out]; rfl, rfl⟩

theorem portion_any (t x S : Int) (w : World) (t0 : 0 ≤ t) (t1 : t ≤ 100000000000000) (x0 : 0 ≤ x) (x1 : x ≤ S) (S0 : 1 ≤ S) (S1 : S ≤ 100000000000000) :
    Calls Try.prog 38 #[.int .i64 t, .int .i64 x, .int .i64 S] w fun e w' => e = .returned (.tuple #[.int .i64 (t * x / S), .int .i64 (t * x % S)]) ∧ Below w.heap.size w w' := by
  have hq := upto_in t S x t0 S0 x0 x1
  have HM := Lib.hid (Mn.mul_gives t x t0 t1 x0 (by omega))
  have HD := Lib.hid (Dv.need_all t x S t0 t1 x0 (by omega) S0 S1 (Mn.high_small (t * x) S S0 (by omega)))
  have q0 := hq.1
  have q1 : t * x / S ≤ 100000000000000 := by omega
  have r0 : 0 ≤ t * x % S := Int.emod_nonneg _ (by omega)
  have r1 : t * x % S < S := Int.emod_lt_of_pos _ (by omega)
  clear hq
  generalize t * x / S = q at *
  generalize t * x % S = r at *
  generalize t * x / 18446744073709551616 = hi at *
  generalize t * x % 18446744073709551616 = lo at *
  go_enter Try.func38, Try.ntmps38
  go_wp2_with fail
  refine (HM.out _).mono ?_
  rintro e w1 ⟨rfl, rfl⟩
  go_wp2_with fail
  refine (HD.out _).mono ?_
  rintro e w2 ⟨rfl, hb⟩
  go_wp2
  go_ret2
  exact ⟨rfl, hb⟩

/-! ### Rows of numbers in memory -/
def cellsL (l : List Int) : Array Value := (l.map (Value.int .i64)).toArray

/-- Block g holds the numbers of l, each may be written. -/
def RowAt (w : World) (g : Nat) (l : List Int) : Prop := Blk w g 2 (cellsL l)

theorem RowAt.cell {w : World} {g : Nat} {l : List Int} (h : RowAt w g l) (k : Nat) (hk : k < l.length) : w.cell? ⟨g, k, none⟩ = some (.int .i64 (nth l k)) := by
  rw [Blk.cell h k]
  unfold cellsL nth
  simp [hk]

theorem RowAt.put {w : World} {g : Nat} {l : List Int} (h : RowAt w g l) (k : Nat) (y : Int) : RowAt (w.setCell ⟨g, k, none⟩ (.int .i64 y)) g (l.set k y) := by
  have h1 := Blk.put h k (.int .i64 y)
  have e : (cellsL l).setIfInBounds k (.int .i64 y) = cellsL (l.set k y) := by
    unfold cellsL
    rw [List.setIfInBounds_toArray, List.map_set]
  rw [e] at h1
  exact h1

theorem RowAt.below {w w' : World} {g : Nat} {l : List Int} (h : RowAt w g l) (hb : Below w.heap.size w w') : RowAt w' g l := Blk.below h hb

theorem RowAt.ints {w : World} {g : Nat} {l : List Int} (h : RowAt w g l) : Hl.Ints w w.heap.size (some ⟨g, 0, none⟩) l.length (nth l) := fun k hk => by
  refine ⟨g, 0, rfl, Blk.lt h, ?_⟩
  rw [Nat.zero_add]
  exact h.cell k hk

theorem RowAt.made (w : World) (n : Nat) : RowAt (w.alloc (.cells (madeCells #[.int .i64 0] n) 2)) w.heap.size (List.replicate n 0) := by
  have e : madeCells #[.int .i64 0] n = cellsL (List.replicate n 0) := by
    apply Array.toList_inj.1
    rw [toList_madeCells_one]
    unfold cellsL
    simp
  unfold RowAt
  rw [← e]
  exact Blk.new _ _ _

theorem RowAt.moved {w w' : World} {B q g : Nat} {r : Option Nat} {l : List Int} {ps : List Pt} (h : RowAt w g l) (hq : IsQ w B q r ps) (hm : Moved w w' q r) : RowAt w' g l := hq.blk hm h (by omega) (by omega)

/-- A queue stays, where a row of numbers is written. -/
theorem que_put {w : World} {B q g k : Nat} {r : Option Nat} {l : List Int} {ps : List Pt} {u : Value} (h : IsQ w B q r ps) (hr : RowAt w g l) : IsQ (w.setCell ⟨g, k, none⟩ u) B q r ps := by
  have hne : some q ≠ some g := by
    obtain ⟨hs, v, a, hQ, _⟩ := h
    intro e
    injection e with e
    subst e
    have h2 : 2 ≠ 74 := by omega
    have h4 := hQ.blk.here
    rw [hr.here] at h4
    injection h4 with h4
    injection h4 with _ h4
    exact h2 h4
  have hne2 : r = none ∨ r ≠ some g := by
    right
    obtain ⟨hs, v, a, hQ, rfl, _⟩ := h
    exact fun e => Qu.own_blk_ne hQ.own hr (by omega) e.symm
  exact h.grown (Qu.turned_at w g k u) hne hne2

theorem info_row : (Try.prog.info? 2).map (fun i => (i.zero, i.size, i.bytes)) = some (some (.int .i64 0), 1, 8) := by kernel_rfl

theorem make_row (n : Nat) (hn : n ≤ 900000000) (W : World) : (Instr.makeSlice 22 (.int .i64 (n : Int)) (.int .i64 (n : Int))).run Try.prog W = .ok (.slice (some ⟨W.heap.size, 0, none⟩) n n) (W.alloc (.cells (madeCells #[.int .i64 0] n) 2)) := by
  obtain ⟨i0, hi0, hz0, hz1, hz2⟩ := info_parts info_row
  have hr := run_make (P := Try.prog) W 22 2 i0 _ Try.underlying22 hi0 hz0 .i64 .i64 (n : Int) (n : Int) (by omega) (by omega) (by rw [hz2]; omega) (by omega)
  rw [hz1, Nat.mul_one] at hr
  simp only [Int.toNat_natCast] at hr
  exact hr

end Go.Proofs.Ytmnbamfemcgloaa.Sh
