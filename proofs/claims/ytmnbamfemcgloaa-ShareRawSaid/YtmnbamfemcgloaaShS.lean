/- The document's Largest, where it gives parts. -/
import Derived.Test.YtmnbamfemcgloaaShR
namespace Go.Proofs.Ytmnbamfemcgloaa.Sh
open Go.ChangeShapes Go.WideShapes Go.ChangeAt Go.RowKit
open Qu (Blk IsQ Moved Pt ord)
set_option linter.unusedVariables false

set_option maxHeartbeats 4000000 in
set_option maxRecDepth 100000 in
theorem rl_none (t : Int) (A : Option Addr) (n c : Nat) (f : Nat → Int) (w : World) (ha : Hl.Ints w w.heap.size A n f) (t0 : 0 ≤ t) (t1 : t ≤ 100000000000000) (hn : n ≤ 100000) (hf : ∀ k, k < n → 0 ≤ f k ∧ f k ≤ 100000000000000) (h : sumF f n = 0) (hp : 0 < t) :
    Calls Try.prog 13 #[.int .i64 t, .slice A n c] w fun e w' => e = .returned (.tuple #[.slice none 0 0, .int .i64 7]) ∧ w = w' := by
  have d0 : decide ((100000 : Int) < (n : Int)) = false := by simp; omega
  have d1 : decide (100000 < n) = false := by simp; omega
  have n1 : (n : Int) ≤ 100000 := by omega
  have HA := Lib.hid ha
  have HN := Lib.hid hn
  have HF := Lib.hid hf
  have HT := Lib.hid h
  clear h
  clear ha hf hn
  go_enter Try.func13, Try.ntmps13
  go_wp2_with fail
  refine (Rf.right_yes _ _ t0 t1).mono ?_
  rintro e w1 ⟨rfl, rfl⟩
  go_wp2
  go_loopw [6] (fun s wr => ∃ k : Nat, s = .int .i64 k ∧ k ≤ n ∧ w = wr) (fun s _ => n - (intOf s).toNat)
  case atStart => exact ⟨0, rfl, by omega, by trivial⟩
  case round =>
    obtain ⟨k, rfl, hk, rfl⟩ := hrel
    have k0 : (0 : Int) ≤ (k : Int) := by omega
    by_cases hlt : k < n
    · obtain ⟨b, o, rfl, hbm, c1⟩ := HA.out k hlt
      have k1 : (k : Int) < (n : Int) := by omega
      go_wp2_with fail
      refine (Rf.right_yes _ _ (HF.out k hlt).1 (HF.out k hlt).2).mono ?_
      rintro e w1 ⟨rfl, rfl⟩
      go_wp2
      go_roundw
      case rel => exact ⟨k + 1, by go_num, by omega, by trivial⟩
      case measure => simp [intOf]; omega
    · obtain rfl : k = n := by omega
      have k1 : ¬ (k : Int) < (k : Int) := by omega
      go_wp2
      go_loopw [7, 8] (fun v s wr => ∃ (j : Nat) (x : Int), v = .int .i64 x ∧ s = .int .i64 j ∧ j ≤ k ∧ w = wr ∧ x = sumF f j ∧ 0 ≤ x ∧ x ≤ 100000000000000) (fun _ s _ => k - (intOf s).toNat)
      case atStart => exact ⟨0, 0, rfl, rfl, by omega, by trivial, rfl, by omega, by omega⟩
      case round =>
        obtain ⟨j, x, rfl, rfl, hj, rfl, hx, x0, x1⟩ := hrel
        have HX := Lib.hid hx
        clear hx
        have j0 : (0 : Int) ≤ (j : Int) := by omega
        by_cases hlt2 : j < k
        · obtain ⟨b, o, rfl, hbm, c1⟩ := HA.out j hlt2
          have j1 : (j : Int) < (k : Int) := by omega
          have hfj := HF.out j hlt2
          have HS : Hid (x + f j = sumF f (j + 1)) := Lib.hid (by rw [HX.out]; rfl)
          have hs : x + f j ≤ 100000000000000 := by
            have := sumF_le (f := f) (j + 1) k (by omega) (fun i hi => (HF.out i hi).1)
            have := HS.out
            have := HT.out
            omega
          go_wp2
          go_roundw
          case rel => exact ⟨j + 1, x + f j, by trivial, by go_num, by omega, by trivial, HS.out, by omega, hs⟩
          case measure => simp [intOf]; omega
        · obtain rfl : j = k := by omega
          have j1 : ¬ (j : Int) < (j : Int) := by omega
          clear d0 d1 hlt hlt2 k0 k1 hk hj
          obtain rfl : x = 0 := by rw [HX.out]; exact HT.out
          have b1 : (t != 0) = true := by rw [bne_iff_ne]; omega
          have b2 : (t == 0) = false := by rw [beq_eq_false_iff_ne]; omega
          clear x0 x1
          go_wp2
          all_goals
            go_ret2
            exact ⟨rfl, rfl⟩

set_option maxHeartbeats 4000000 in
set_option maxRecDepth 100000 in
theorem rl_zero (t : Int) (A : Option Addr) (n c : Nat) (f : Nat → Int) (w : World) (ha : Hl.Ints w w.heap.size A n f) (t0 : 0 ≤ t) (t1 : t ≤ 100000000000000) (hn : n ≤ 100000) (hf : ∀ k, k < n → 0 ≤ f k ∧ f k ≤ 100000000000000) (h : sumF f n = 0) (hp : t = 0) :
    Calls Try.prog 13 #[.int .i64 t, .slice A n c] w fun e w' => Gave e w w' (List.replicate n 0, 0) := by
  have d0 : decide ((100000 : Int) < (n : Int)) = false := by simp; omega
  have d1 : decide (100000 < n) = false := by simp; omega
  have n1 : (n : Int) ≤ 100000 := by omega
  have HA := Lib.hid ha
  have HN := Lib.hid hn
  have HF := Lib.hid hf
  have HT := Lib.hid h
  clear h
  have HP0 := Lib.hid hp
  clear hp
  clear ha hf hn
  go_enter Try.func13, Try.ntmps13
  go_wp2_with fail
  refine (Rf.right_yes _ _ t0 t1).mono ?_
  rintro e w1 ⟨rfl, rfl⟩
  go_wp2
  go_loopw [6] (fun s wr => ∃ k : Nat, s = .int .i64 k ∧ k ≤ n ∧ w = wr) (fun s _ => n - (intOf s).toNat)
  case atStart => exact ⟨0, rfl, by omega, by trivial⟩
  case round =>
    obtain ⟨k, rfl, hk, rfl⟩ := hrel
    have k0 : (0 : Int) ≤ (k : Int) := by omega
    by_cases hlt : k < n
    · obtain ⟨b, o, rfl, hbm, c1⟩ := HA.out k hlt
      have k1 : (k : Int) < (n : Int) := by omega
      go_wp2_with fail
      refine (Rf.right_yes _ _ (HF.out k hlt).1 (HF.out k hlt).2).mono ?_
      rintro e w1 ⟨rfl, rfl⟩
      go_wp2
      go_roundw
      case rel => exact ⟨k + 1, by go_num, by omega, by trivial⟩
      case measure => simp [intOf]; omega
    · obtain rfl : k = n := by omega
      have k1 : ¬ (k : Int) < (k : Int) := by omega
      go_wp2
      go_loopw [7, 8] (fun v s wr => ∃ (j : Nat) (x : Int), v = .int .i64 x ∧ s = .int .i64 j ∧ j ≤ k ∧ w = wr ∧ x = sumF f j ∧ 0 ≤ x ∧ x ≤ 100000000000000) (fun _ s _ => k - (intOf s).toNat)
      case atStart => exact ⟨0, 0, rfl, rfl, by omega, by trivial, rfl, by omega, by omega⟩
      case round =>
        obtain ⟨j, x, rfl, rfl, hj, rfl, hx, x0, x1⟩ := hrel
        have HX := Lib.hid hx
        clear hx
        have j0 : (0 : Int) ≤ (j : Int) := by omega
        by_cases hlt2 : j < k
        · obtain ⟨b, o, rfl, hbm, c1⟩ := HA.out j hlt2
          have j1 : (j : Int) < (k : Int) := by omega
          have hfj := HF.out j hlt2
          have HS : Hid (x + f j = sumF f (j + 1)) := Lib.hid (by rw [HX.out]; rfl)
          have hs : x + f j ≤ 100000000000000 := by
            have := sumF_le (f := f) (j + 1) k (by omega) (fun i hi => (HF.out i hi).1)
            have := HS.out
            have := HT.out
            omega
          go_wp2
          go_roundw
          case rel => exact ⟨j + 1, x + f j, by trivial, by go_num, by omega, by trivial, HS.out, by omega, hs⟩
          case measure => simp [intOf]; omega
        · obtain rfl : j = k := by omega
          have j1 : ¬ (j : Int) < (j : Int) := by omega
          clear d0 d1 hlt hlt2 k0 k1 hk hj
          obtain rfl : x = 0 := by rw [HX.out]; exact HT.out
          obtain rfl : t = 0 := HP0.out
          clear x0 x1 t0 t1
          have hj1 : j ≤ 100000 := HN.out
          have hmk := make_row j (by omega)
          have HR0 : Hid (RowAt ((w.alloc (.cells (madeCells #[.int .i64 0] j) 2)).alloc (.cells (madeCells #[.int .i64 0] j) 2)) w.heap.size (List.replicate j 0) ∧ RowAt ((w.alloc (.cells (madeCells #[.int .i64 0] j) 2)).alloc (.cells (madeCells #[.int .i64 0] j) 2)) (w.heap.size + 1) (List.replicate j 0) ∧ Below w.heap.size w ((w.alloc (.cells (madeCells #[.int .i64 0] j) 2)).alloc (.cells (madeCells #[.int .i64 0] j) 2))) := Lib.hid (by
            refine ⟨(RowAt.made w j).alloc _, ?_, ((Below.refl _ _).alloc (Nat.le_refl _) _).alloc (by simp) _⟩
            have := RowAt.made (w.alloc (.cells (madeCells #[.int .i64 0] j) 2)) j
            simpa using this)
          go_wp2
          go_loopw [11, 12] (fun v s wr => v = .int .i64 0 ∧ s = .int .i64 0 ∧ RowAt wr w.heap.size (List.replicate j 0) ∧ RowAt wr (w.heap.size + 1) (List.replicate j 0) ∧ Below w.heap.size w wr) (fun _ s _ => 0)
          case atStart => exact ⟨rfl, rfl, HR0.out⟩
          case round =>
            clear HR0
            obtain ⟨rfl, rfl, hr1, hr2, hb⟩ := hrel
            have hi := hr2.ints
            rw [List.length_replicate] at hi
            have HO := Lib.hid (Qu.ref_order (some ⟨w.heap.size + 1, 0, none⟩) j j _ wr hi (by omega))
            have HR := Lib.hid (And.intro hr1 hb)
            clear hr1 hr2 hb hi
            by_cases h0 : j = 0
            · subst h0
              go_wp2_with fail
              refine HO.out.mono ?_
              rintro e w2 ⟨A2, c2, rfl, _, hb2⟩
              have HB2 := Lib.hid hb2
              clear hb2
              go_wp2
              go_loopw [14] (fun s wx => s = .int .i64 0 ∧ w2 = wx) (fun s _ => 0)
              case atStart => exact ⟨rfl, by trivial⟩
              case round =>
                obtain ⟨rfl, rfl⟩ := hrel
                have HG := Lib.hid (Gave.row (w := w) (n := 0) (l := List.replicate 0 0) (by simp) (HR.out.1.below HB2.out) (HR.out.2.trans (HB2.out.mono HR.out.2.size)))
                go_wp2
                go_ret2
                exact HG.out
            · have q1 : (0 : Int) < (j : Int) := by omega
              go_wp2_with fail
              refine HO.out.mono ?_
              rintro e w2 ⟨A2, c2, rfl, _, hb2⟩
              have HB2 := Lib.hid hb2
              clear hb2
              go_wp2
              go_loopw [14] (fun s wx => s = .int .i64 0 ∧ w2 = wx) (fun s _ => 0)
              case atStart => exact ⟨rfl, by trivial⟩
              case round =>
                obtain ⟨rfl, rfl⟩ := hrel
                have HG := Lib.hid (Gave.row (w := w) (n := j) (l := List.replicate j 0) (by simp) (HR.out.1.below HB2.out) (HR.out.2.trans (HB2.out.mono HR.out.2.size)))
                go_wp2
                go_ret2
                exact HG.out

end Go.Proofs.Ytmnbamfemcgloaa.Sh
