/- The document's Largest. · The document's Largest, where it gives parts. · The document's Largest, whole. -/
import Derived.Deep.RegionWith
import Derived.Test.YtacmoanhbkipfaaGreatPk13

section
set_option maxRecDepth 100000
namespace Go.Proofs.YtacmoanhbkipfaaGreat.Sh
open Go.ChangeShapes Go.WideShapes Go.ChangeAt Go.RowKit
open Qu (Blk IsQ Moved Pt ord)
set_option linter.unusedVariables false
theorem rl_t (t : Int) (A : Option Addr) (n c : Nat) (w : World) (h : t < 0 ∨ 100000000000000 < t) :
    Calls Tryz.prog 68 #[.int .i64 t, .slice A n c] w fun e w' => e = .returned (.tuple #[.slice none 0 0, .int .i64 2]) ∧ w = w' := by
  go_enter Tryz.func68, Tryz.ntmps68
  go_wp2_with fail
  refine (Rf.right_no _ _ h).mono ?_
  rintro e w1 ⟨rfl, rfl⟩
  go_wp2
  all_goals
    go_ret2
    exact ⟨rfl, rfl⟩
theorem rl_n (t : Int) (A : Option Addr) (n c : Nat) (w : World) (t0 : 0 ≤ t) (t1 : t ≤ 100000000000000) (h : 100000 < n) :
    Calls Tryz.prog 68 #[.int .i64 t, .slice A n c] w fun e w' => e = .returned (.tuple #[.slice none 0 0, .int .i64 2]) ∧ w = w' := by
  have d0 : decide ((100000 : Int) < (n : Int)) = true := by simp; omega
  have d1 : decide (100000 < n) = true := by simp; omega
  clear h
  go_enter Tryz.func68, Tryz.ntmps68
  go_wp2_with fail
  refine (Rf.right_yes _ _ t0 t1).mono ?_
  rintro e w1 ⟨rfl, rfl⟩
  go_wp2
  all_goals
    go_ret2
    exact ⟨rfl, rfl⟩
theorem rl_w (t : Int) (A : Option Addr) (n c : Nat) (f : Nat → Int) (w : World) (ha : Hl.Ints w w.heap.size A n f) (t0 : 0 ≤ t) (t1 : t ≤ 100000000000000) (hn : n ≤ 100000) (h : allOk f n = false) :
    Calls Tryz.prog 68 #[.int .i64 t, .slice A n c] w fun e w' => e = .returned (.tuple #[.slice none 0 0, .int .i64 2]) ∧ w = w' := by
  have d0 : decide ((100000 : Int) < (n : Int)) = false := by simp; omega
  have d1 : decide (100000 < n) = false := by simp; omega
  have n1 : (n : Int) ≤ 100000 := by omega
  have HA := Lib.hid ha
  have HF := Lib.hid h
  clear ha h
  go_enter Tryz.func68, Tryz.ntmps68
  go_wp2_with fail
  refine (Rf.right_yes _ _ t0 t1).mono ?_
  rintro e w1 ⟨rfl, rfl⟩
  go_wp2
  go_loopw [6] (fun s wr => ∃ k : Nat, s = .int .i64 k ∧ k ≤ n ∧ w = wr ∧ ∀ j, j < k → 0 ≤ f j ∧ f j ≤ 100000000000000) (fun s _ => n - (intOf s).toNat)
  case atStart => exact ⟨0, rfl, by omega, by trivial, fun j hj => by omega⟩
  case round =>
    obtain ⟨k, rfl, hk, rfl, hE⟩ := hrel
    have HE := Lib.hid hE
    clear hE
    have k0 : (0 : Int) ≤ (k : Int) := by omega
    by_cases hlt : k < n
    · obtain ⟨b, o, rfl, hbm, c1⟩ := HA.out k hlt
      have k1 : (k : Int) < (n : Int) := by omega
      by_cases hx : 0 ≤ f k ∧ f k ≤ 100000000000000
      · have HX := Lib.hid hx
        clear hx
        go_wp2_with fail
        refine (Rf.right_yes _ _ HX.out.1 HX.out.2).mono ?_
        rintro e w1 ⟨rfl, rfl⟩
        go_wp2
        go_roundw
        case rel => exact ⟨k + 1, by go_num, by omega, by trivial, fun j hj => by
          rcases Nat.lt_or_ge j k with h | h
          · exact HE.out j h
          · have : j = k := by omega
            subst this; exact HX.out⟩
        case measure => simp [intOf]; omega
      · have HX := Lib.hid (show f k < 0 ∨ 100000000000000 < f k by omega)
        clear hx
        go_wp2_with fail
        refine (Rf.right_no _ _ HX.out).mono ?_
        rintro e w1 ⟨rfl, rfl⟩
        go_wp2
        go_ret2
        exact ⟨rfl, rfl⟩
    · exfalso
      have := (allOk_iff f n).2 (fun j hj => HE.out j (by omega))
      rw [HF.out] at this
      cases this
theorem rl_over (t : Int) (A : Option Addr) (n c : Nat) (f : Nat → Int) (w : World) (ha : Hl.Ints w w.heap.size A n f) (t0 : 0 ≤ t) (t1 : t ≤ 100000000000000) (hn : n ≤ 100000) (hf : ∀ k, k < n → 0 ≤ f k ∧ f k ≤ 100000000000000) (h : 100000000000000 < sumF f n) :
    Calls Tryz.prog 68 #[.int .i64 t, .slice A n c] w fun e w' => e = .returned (.tuple #[.slice none 0 0, .int .i64 5]) ∧ w = w' := by
  have d0 : decide ((100000 : Int) < (n : Int)) = false := by simp; omega
  have d1 : decide (100000 < n) = false := by simp; omega
  have n1 : (n : Int) ≤ 100000 := by omega
  have HA := Lib.hid ha
  have HF := Lib.hid (And.intro hf h)
  clear ha h hf
  go_enter Tryz.func68, Tryz.ntmps68
  go_wp2_with fail
  refine (Rf.right_yes _ _ t0 t1).mono ?_
  rintro e w1 ⟨rfl, rfl⟩
  go_wp2
  go_loopw [6] (fun s wr => ∃ k : Nat, s = .int .i64 k ∧ k ≤ n ∧ w = wr) (fun s _ => n - (intOf s).toNat)
  case atStart => exact ⟨0, rfl, by omega, by trivial⟩
  case round =>
    obtain ⟨k, rfl, hk, rfl⟩ := hrel
    have k0 : (0 : Int) ≤ (k : Int) := by omega
    by_cases hlt : k < n
    · obtain ⟨b, o, rfl, hbm, c1⟩ := HA.out k hlt
      have k1 : (k : Int) < (n : Int) := by omega
      go_wp2_with fail
      refine (Rf.right_yes _ _ (HF.out.1 k hlt).1 (HF.out.1 k hlt).2).mono ?_
      rintro e w1 ⟨rfl, rfl⟩
      go_wp2
      go_roundw
      case rel => exact ⟨k + 1, by go_num, by omega, by trivial⟩
      case measure => simp [intOf]; omega
    · obtain rfl : k = n := by omega
      have k1 : ¬ (k : Int) < (k : Int) := by omega
      go_wp2
      go_loopw [7, 8] (fun v s wr => ∃ (j : Nat) (x : Int), v = .int .i64 x ∧ s = .int .i64 j ∧ j ≤ k ∧ w = wr ∧ x = sumF f j ∧ 0 ≤ x ∧ x ≤ 100000000000000) (fun _ s _ => k - (intOf s).toNat)
      case atStart => exact ⟨0, 0, rfl, rfl, by omega, by trivial, rfl, by omega, by omega⟩
      case round =>
        obtain ⟨j, x, rfl, rfl, hj, rfl, hx, x0, x1⟩ := hrel
        have HX := Lib.hid hx
        clear hx
        have j0 : (0 : Int) ≤ (j : Int) := by omega
        by_cases hlt2 : j < k
        · obtain ⟨b, o, rfl, hbm, c1⟩ := HA.out j hlt2
          have j1 : (j : Int) < (k : Int) := by omega
          have hfj := HF.out.1 j hlt2
          have HS : Hid (x + f j = sumF f (j + 1)) := Lib.hid (by rw [HX.out]; rfl)
          by_cases hs : x + f j ≤ 100000000000000
          · go_wp2
            go_roundw
            case rel => exact ⟨j + 1, x + f j, by trivial, by go_num, by omega, by trivial, HS.out, by omega, hs⟩
            case measure => simp [intOf]; omega
          · have hs2 : 100000000000000 < x + f j := by omega
            go_wp2
            go_ret2
            exact ⟨rfl, rfl⟩
        · exfalso
          obtain rfl : j = k := by omega
          have := HX.out
          have := HF.out.2
          omega
end Go.Proofs.YtacmoanhbkipfaaGreat.Sh

end

section
set_option maxRecDepth 100000
namespace Go.Proofs.YtacmoanhbkipfaaGreat.Sh
open Go.ChangeShapes Go.WideShapes Go.ChangeAt Go.RowKit
open Qu (Blk IsQ Moved Pt ord)
set_option linter.unusedVariables false
set_option maxHeartbeats 4000000 in
set_option maxRecDepth 100000 in
theorem rl_none (t : Int) (A : Option Addr) (n c : Nat) (f : Nat → Int) (w : World) (ha : Hl.Ints w w.heap.size A n f) (t0 : 0 ≤ t) (t1 : t ≤ 100000000000000) (hn : n ≤ 100000) (hf : ∀ k, k < n → 0 ≤ f k ∧ f k ≤ 100000000000000) (h : sumF f n = 0) (hp : 0 < t) :
    Calls Tryz.prog 68 #[.int .i64 t, .slice A n c] w fun e w' => e = .returned (.tuple #[.slice none 0 0, .int .i64 7]) ∧ w = w' := by
  have d0 : decide ((100000 : Int) < (n : Int)) = false := by simp; omega
  have d1 : decide (100000 < n) = false := by simp; omega
  have n1 : (n : Int) ≤ 100000 := by omega
  have HA := Lib.hid ha
  have HN := Lib.hid hn
  have HF := Lib.hid hf
  have HT := Lib.hid h
  clear h
  clear ha hf hn
  go_enter Tryz.func68, Tryz.ntmps68
  go_wp2_with fail
  refine (Rf.right_yes _ _ t0 t1).mono ?_
  rintro e w1 ⟨rfl, rfl⟩
  go_wp2
  go_loopw [6] (fun s wr => ∃ k : Nat, s = .int .i64 k ∧ k ≤ n ∧ w = wr) (fun s _ => n - (intOf s).toNat)
  case atStart => exact ⟨0, rfl, by omega, by trivial⟩
  case round =>
    obtain ⟨k, rfl, hk, rfl⟩ := hrel
    have k0 : (0 : Int) ≤ (k : Int) := by omega
    by_cases hlt : k < n
    · obtain ⟨b, o, rfl, hbm, c1⟩ := HA.out k hlt
      have k1 : (k : Int) < (n : Int) := by omega
      go_wp2_with fail
      refine (Rf.right_yes _ _ (HF.out k hlt).1 (HF.out k hlt).2).mono ?_
      rintro e w1 ⟨rfl, rfl⟩
      go_wp2
      go_roundw
      case rel => exact ⟨k + 1, by go_num, by omega, by trivial⟩
      case measure => simp [intOf]; omega
    · obtain rfl : k = n := by omega
      have k1 : ¬ (k : Int) < (k : Int) := by omega
      go_wp2
      go_loopw [7, 8] (fun v s wr => ∃ (j : Nat) (x : Int), v = .int .i64 x ∧ s = .int .i64 j ∧ j ≤ k ∧ w = wr ∧ x = sumF f j ∧ 0 ≤ x ∧ x ≤ 100000000000000) (fun _ s _ => k - (intOf s).toNat)
      case atStart => exact ⟨0, 0, rfl, rfl, by omega, by trivial, rfl, by omega, by omega⟩
      case round =>
        obtain ⟨j, x, rfl, rfl, hj, rfl, hx, x0, x1⟩ := hrel
        have HX := Lib.hid hx
        clear hx
        have j0 : (0 : Int) ≤ (j : Int) := by omega
        by_cases hlt2 : j < k
        · obtain ⟨b, o, rfl, hbm, c1⟩ := HA.out j hlt2
          have j1 : (j : Int) < (k : Int) := by omega
          have hfj := HF.out j hlt2
          have HS : Hid (x + f j = sumF f (j + 1)) := Lib.hid (by rw [HX.out]; rfl)
          have hs : x + f j ≤ 100000000000000 := by
            have := sumF_le (f := f) (j + 1) k (by omega) (fun i hi => (HF.out i hi).1)
            have := HS.out
            have := HT.out
            omega
          go_wp2
          go_roundw
          case rel => exact ⟨j + 1, x + f j, by trivial, by go_num, by omega, by trivial, HS.out, by omega, hs⟩
          case measure => simp [intOf]; omega
        · obtain rfl : j = k := by omega
          have j1 : ¬ (j : Int) < (j : Int) := by omega
          clear d0 d1 hlt hlt2 k0 k1 hk hj
          obtain rfl : x = 0 := by rw [HX.out]; exact HT.out
          have b1 : (t != 0) = true := by rw [bne_iff_ne]; omega
          have b2 : (t == 0) = false := by rw [beq_eq_false_iff_ne]; omega
          clear x0 x1
          go_wp2
          all_goals
            go_ret2
            exact ⟨rfl, rfl⟩
set_option maxHeartbeats 4000000 in
set_option maxRecDepth 100000 in
theorem rl_zero (t : Int) (A : Option Addr) (n c : Nat) (f : Nat → Int) (w : World) (ha : Hl.Ints w w.heap.size A n f) (t0 : 0 ≤ t) (t1 : t ≤ 100000000000000) (hn : n ≤ 100000) (hf : ∀ k, k < n → 0 ≤ f k ∧ f k ≤ 100000000000000) (h : sumF f n = 0) (hp : t = 0) :
    Calls Tryz.prog 68 #[.int .i64 t, .slice A n c] w fun e w' => Gave e w w' (List.replicate n 0, 0) := by
  have d0 : decide ((100000 : Int) < (n : Int)) = false := by simp; omega
  have d1 : decide (100000 < n) = false := by simp; omega
  have n1 : (n : Int) ≤ 100000 := by omega
  have HA := Lib.hid ha
  have HN := Lib.hid hn
  have HF := Lib.hid hf
  have HT := Lib.hid h
  clear h
  have HP0 := Lib.hid hp
  clear hp
  clear ha hf hn
  go_enter Tryz.func68, Tryz.ntmps68
  go_wp2_with fail
  refine (Rf.right_yes _ _ t0 t1).mono ?_
  rintro e w1 ⟨rfl, rfl⟩
  go_wp2
  go_loopw [6] (fun s wr => ∃ k : Nat, s = .int .i64 k ∧ k ≤ n ∧ w = wr) (fun s _ => n - (intOf s).toNat)
  case atStart => exact ⟨0, rfl, by omega, by trivial⟩
  case round =>
    obtain ⟨k, rfl, hk, rfl⟩ := hrel
    have k0 : (0 : Int) ≤ (k : Int) := by omega
    by_cases hlt : k < n
    · obtain ⟨b, o, rfl, hbm, c1⟩ := HA.out k hlt
      have k1 : (k : Int) < (n : Int) := by omega
      go_wp2_with fail
      refine (Rf.right_yes _ _ (HF.out k hlt).1 (HF.out k hlt).2).mono ?_
      rintro e w1 ⟨rfl, rfl⟩
      go_wp2
      go_roundw
      case rel => exact ⟨k + 1, by go_num, by omega, by trivial⟩
      case measure => simp [intOf]; omega
    · obtain rfl : k = n := by omega
      have k1 : ¬ (k : Int) < (k : Int) := by omega
      go_wp2
      go_loopw [7, 8] (fun v s wr => ∃ (j : Nat) (x : Int), v = .int .i64 x ∧ s = .int .i64 j ∧ j ≤ k ∧ w = wr ∧ x = sumF f j ∧ 0 ≤ x ∧ x ≤ 100000000000000) (fun _ s _ => k - (intOf s).toNat)
      case atStart => exact ⟨0, 0, rfl, rfl, by omega, by trivial, rfl, by omega, by omega⟩
      case round =>
        obtain ⟨j, x, rfl, rfl, hj, rfl, hx, x0, x1⟩ := hrel
        have HX := Lib.hid hx
        clear hx
        have j0 : (0 : Int) ≤ (j : Int) := by omega
        by_cases hlt2 : j < k
        · obtain ⟨b, o, rfl, hbm, c1⟩ := HA.out j hlt2
          have j1 : (j : Int) < (k : Int) := by omega
          have hfj := HF.out j hlt2
          have HS : Hid (x + f j = sumF f (j + 1)) := Lib.hid (by rw [HX.out]; rfl)
          have hs : x + f j ≤ 100000000000000 := by
            have := sumF_le (f := f) (j + 1) k (by omega) (fun i hi => (HF.out i hi).1)
            have := HS.out
            have := HT.out
            omega
          go_wp2
          go_roundw
          case rel => exact ⟨j + 1, x + f j, by trivial, by go_num, by omega, by trivial, HS.out, by omega, hs⟩
          case measure => simp [intOf]; omega
        · obtain rfl : j = k := by omega
          have j1 : ¬ (j : Int) < (j : Int) := by omega
          clear d0 d1 hlt hlt2 k0 k1 hk hj
          obtain rfl : x = 0 := by rw [HX.out]; exact HT.out
          obtain rfl : t = 0 := HP0.out
          clear x0 x1 t0 t1
          have hj1 : j ≤ 100000 := HN.out
          have hmk := make_row j (by omega)
          have HR0 : Hid (RowAt ((w.alloc (.cells (madeCells #[.int .i64 0] j) 2)).alloc (.cells (madeCells #[.int .i64 0] j) 2)) w.heap.size (List.replicate j 0) ∧ RowAt ((w.alloc (.cells (madeCells #[.int .i64 0] j) 2)).alloc (.cells (madeCells #[.int .i64 0] j) 2)) (w.heap.size + 1) (List.replicate j 0) ∧ Below w.heap.size w ((w.alloc (.cells (madeCells #[.int .i64 0] j) 2)).alloc (.cells (madeCells #[.int .i64 0] j) 2))) := Lib.hid (by
            refine ⟨(RowAt.made w j).alloc _, ?_, ((Below.refl _ _).alloc (Nat.le_refl _) _).alloc (by simp) _⟩
            have := RowAt.made (w.alloc (.cells (madeCells #[.int .i64 0] j) 2)) j
            simpa using this)
          go_wp2
          go_loopw [11, 12] (fun v s wr => v = .int .i64 0 ∧ s = .int .i64 0 ∧ RowAt wr w.heap.size (List.replicate j 0) ∧ RowAt wr (w.heap.size + 1) (List.replicate j 0) ∧ Below w.heap.size w wr) (fun _ s _ => 0)
          case atStart => exact ⟨rfl, rfl, HR0.out⟩
          case round =>
            clear HR0
            obtain ⟨rfl, rfl, hr1, hr2, hb⟩ := hrel
            have hi := hr2.ints
            rw [List.length_replicate] at hi
            have HO := Lib.hid (Qu.ref_order (some ⟨w.heap.size + 1, 0, none⟩) j j _ wr hi (by omega))
            have HR := Lib.hid (And.intro hr1 hb)
            clear hr1 hr2 hb hi
            by_cases h0 : j = 0
            · subst h0
              go_wp2_with fail
              refine HO.out.mono ?_
              rintro e w2 ⟨A2, c2, rfl, _, hb2⟩
              have HB2 := Lib.hid hb2
              clear hb2
              go_wp2
              go_loopw [14] (fun s wx => s = .int .i64 0 ∧ w2 = wx) (fun s _ => 0)
              case atStart => exact ⟨rfl, by trivial⟩
              case round =>
                obtain ⟨rfl, rfl⟩ := hrel
                have HG := Lib.hid (Gave.row (w := w) (n := 0) (l := List.replicate 0 0) (by simp) (HR.out.1.below HB2.out) (HR.out.2.trans (HB2.out.mono HR.out.2.size)))
                go_wp2
                go_ret2
                exact HG.out
            · have q1 : (0 : Int) < (j : Int) := by omega
              go_wp2_with fail
              refine HO.out.mono ?_
              rintro e w2 ⟨A2, c2, rfl, _, hb2⟩
              have HB2 := Lib.hid hb2
              clear hb2
              go_wp2
              go_loopw [14] (fun s wx => s = .int .i64 0 ∧ w2 = wx) (fun s _ => 0)
              case atStart => exact ⟨rfl, by trivial⟩
              case round =>
                obtain ⟨rfl, rfl⟩ := hrel
                have HG := Lib.hid (Gave.row (w := w) (n := j) (l := List.replicate j 0) (by simp) (HR.out.1.below HB2.out) (HR.out.2.trans (HB2.out.mono HR.out.2.size)))
                go_wp2
                go_ret2
                exact HG.out
end Go.Proofs.YtacmoanhbkipfaaGreat.Sh

end

section
set_option maxRecDepth 100000
namespace Go.Proofs.YtacmoanhbkipfaaGreat.Sh
open Go.ChangeShapes Go.WideShapes Go.ChangeAt Go.RowKit
open Qu (Blk IsQ Moved Pt ord)
set_option linter.unusedVariables false
def partG (g : Nat → Int) (n k : Nat) : List Int := (List.range k).map g ++ List.replicate (n - k) 0
theorem partG_length (g : Nat → Int) (n k : Nat) (hk : k ≤ n) : (partG g n k).length = n := by simp [partG]; omega
theorem partG_zero (g : Nat → Int) (n : Nat) : partG g n 0 = List.replicate n 0 := by simp [partG]
theorem partG_set (g : Nat → Int) (n k : Nat) (hk : k < n) : (partG g n k).set k (g k) = partG g n (k + 1) := by
  unfold partG
  have hl : ((List.range k).map g).length = k := by simp
  rw [List.set_append_right _ _ (by rw [hl]; omega), hl, Nat.sub_self]
  obtain ⟨m, hm⟩ : ∃ m, n - k = m + 1 := ⟨n - k - 1, by omega⟩
  have hm2 : n - (k + 1) = m := by omega
  rw [hm, hm2, List.replicate_succ, List.range_succ, List.map_append]
  simp
theorem partG_nth (g : Nat → Int) (n k i : Nat) (hi : i < k) (hk : k ≤ n) : nth (partG g n k) i = g i := by
  unfold nth partG
  simp [List.getD, List.getElem?_append, hi]
theorem RowAt.far {w : World} {g g' k : Nat} {l : List Int} {u : Value} (h : RowAt w g l) (hne : g ≠ g') : RowAt (w.setCell ⟨g', k, none⟩ u) g l := Blk.grown h (Qu.turned_at w g' k u) (by intro e; injection e with e; exact hne e)
structure Rl3 (w wr : World) (t S : Int) (f : Nat → Int) (n i : Nat) : Prop where
  row : RowAt wr w.heap.size (partG (base t S f) n i)
  res : RowAt wr (w.heap.size + 1) (partG (rest t S f) n i)
  below : Below w.heap.size w wr
theorem Rl3.step {w wr w3 : World} {t S : Int} {f : Nat → Int} {n i : Nat} (h : Rl3 w wr t S f n i) (hi : i < n) (hb : Below wr.heap.size wr w3) :
    Rl3 w ((w3.setCell ⟨w.heap.size, i, none⟩ (.int .i64 (base t S f i))).setCell ⟨w.heap.size + 1, i, none⟩ (.int .i64 (rest t S f i))) t S f n (i + 1) := by
  have h1 := (h.row.below hb).put i (base t S f i)
  have h2 := ((h.res.below hb).far (g' := w.heap.size) (k := i) (u := .int .i64 (base t S f i)) (by omega)).put i (rest t S f i)
  rw [partG_set _ _ _ hi] at h1 h2
  refine ⟨h1.far (by omega), h2, ((h.below.trans (hb.mono h.below.size)).setCell (Nat.le_refl _) _).setCell (by simp) _⟩
def PlacesAt (w : World) (A : Option Addr) (M : Nat) (l : List Pt) : Prop := ∀ k x, l[k]? = some x → ∃ g, A = some ⟨g, 0, none⟩ ∧ M < g ∧ w.cell? ⟨g, k, none⟩ = some (.int .i64 x.2)
theorem PlacesAt.own {w : World} {B E M n c : Nat} {A : Option Addr} {l : List Pt} (h : w.ownsRow B E 1 (.slice A n c) n (Qu.nums l)) (hl : l.length = n) (hM : M < B) : PlacesAt w A M l := fun k x hx => by
  have hk := (List.getElem?_eq_some_iff.1 hx).1
  obtain ⟨g, c', hv, hg, _⟩ := h.form (by omega)
  cases hv
  refine ⟨g, rfl, by omega, ?_⟩
  rw [h.cellAt k (by omega)]
  unfold Qu.nums
  rw [List.getElem?_map, hx]
  rfl
theorem PlacesAt.put {w : World} {M i : Nat} {A : Option Addr} {l : List Pt} {u : Value} (h : PlacesAt w A M l) : PlacesAt (w.setCell ⟨M, i, none⟩ u) A M l := fun k x hx => by
  obtain ⟨g, hA, hg, hc⟩ := h k x hx
  refine ⟨g, hA, hg, ?_⟩
  rw [(Qu.turned_at w M i u).cell_far ⟨g, k, none⟩ (World.block_lt_of_cell? w _ hc) (by intro e; injection e with e; have e2 : g = M := e; omega)]
  exact hc
structure Rl4 (w wr : World) (t S : Int) (f : Nat → Int) (n j : Nat) (A : Option Addr) : Prop where
  row : RowAt wr w.heap.size (bump (baseL t S f n) ((ord (rest t S f) n).take j))
  pls : PlacesAt wr A w.heap.size (ord (rest t S f) n)
  below : Below w.heap.size w wr
theorem Rl4.step {w wr : World} {t S : Int} {f : Nat → Int} {n j : Nat} {A : Option Addr} {x : Pt} (h : Rl4 w wr t S f n j A) (hx : (ord (rest t S f) n)[j]? = some x) :
    Rl4 w (wr.setCell ⟨w.heap.size, x.2.toNat, none⟩ (.int .i64 (nth (bump (baseL t S f n) ((ord (rest t S f) n).take j)) x.2.toNat + 1))) t S f n (j + 1) A := by
  refine ⟨?_, h.pls.put, h.below.setCell (Nat.le_refl _) _⟩
  have e : (ord (rest t S f) n).take (j + 1) = (ord (rest t S f) n).take j ++ [x] := by rw [List.take_add_one, hx]; rfl
  rw [e, bump_snoc]
  exact h.row.put _ _
set_option maxHeartbeats 4000000 in
set_option maxRecDepth 100000 in
theorem rl_parts (t : Int) (A : Option Addr) (n c : Nat) (f : Nat → Int) (w : World) (ha : Hl.Ints w w.heap.size A n f) (t0 : 0 ≤ t) (t1 : t ≤ 100000000000000) (hn : n ≤ 100000) (hf : ∀ k, k < n → 0 ≤ f k ∧ f k ≤ 100000000000000) (h0 : 1 ≤ sumF f n) (h : sumF f n ≤ 100000000000000) :
    Calls Tryz.prog 68 #[.int .i64 t, .slice A n c] w fun e w' => Gave e w w' (parts t (sumF f n) f n, 0) := by
  have d0 : decide ((100000 : Int) < (n : Int)) = false := by simp; omega
  have d1 : decide (100000 < n) = false := by simp; omega
  have n1 : (n : Int) ≤ 100000 := by omega
  have HA := Lib.hid ha
  have HN := Lib.hid hn
  have HF := Lib.hid hf
  have HT := Lib.hid (show sumF f n ≤ 100000000000000 by omega)
  have HS0 := Lib.hid h0
  clear h h0
  clear ha hf hn
  go_enter Tryz.func68, Tryz.ntmps68
  go_wp2_with fail
  refine (Rf.right_yes _ _ t0 t1).mono ?_
  rintro e w1 ⟨rfl, rfl⟩
  go_wp2
  go_loopw [6] (fun s wr => ∃ k : Nat, s = .int .i64 k ∧ k ≤ n ∧ w = wr) (fun s _ => n - (intOf s).toNat)
  case atStart => exact ⟨0, rfl, by omega, by trivial⟩
  case round =>
    obtain ⟨k, rfl, hk, rfl⟩ := hrel
    have k0 : (0 : Int) ≤ (k : Int) := by omega
    by_cases hlt : k < n
    · obtain ⟨b, o, rfl, hbm, c1⟩ := HA.out k hlt
      have k1 : (k : Int) < (n : Int) := by omega
      go_wp2_with fail
      refine (Rf.right_yes _ _ (HF.out k hlt).1 (HF.out k hlt).2).mono ?_
      rintro e w1 ⟨rfl, rfl⟩
      go_wp2
      go_roundw
      case rel => exact ⟨k + 1, by go_num, by omega, by trivial⟩
      case measure => simp [intOf]; omega
    · obtain rfl : k = n := by omega
      have k1 : ¬ (k : Int) < (k : Int) := by omega
      go_wp2
      go_loopw [7, 8] (fun v s wr => ∃ (j : Nat) (x : Int), v = .int .i64 x ∧ s = .int .i64 j ∧ j ≤ k ∧ w = wr ∧ x = sumF f j ∧ 0 ≤ x ∧ x ≤ 100000000000000) (fun _ s _ => k - (intOf s).toNat)
      case atStart => exact ⟨0, 0, rfl, rfl, by omega, by trivial, rfl, by omega, by omega⟩
      case round =>
        obtain ⟨j, x, rfl, rfl, hj, rfl, hx, x0, x1⟩ := hrel
        have HX := Lib.hid hx
        clear hx
        have j0 : (0 : Int) ≤ (j : Int) := by omega
        by_cases hlt2 : j < k
        · obtain ⟨b, o, rfl, hbm, c1⟩ := HA.out j hlt2
          have j1 : (j : Int) < (k : Int) := by omega
          have hfj := HF.out j hlt2
          have HS : Hid (x + f j = sumF f (j + 1)) := Lib.hid (by rw [HX.out]; rfl)
          have hs : x + f j ≤ 100000000000000 := by
            have := sumF_le (f := f) (j + 1) k (by omega) (fun i hi => (HF.out i hi).1)
            have := HS.out
            have := HT.out
            omega
          go_wp2
          go_roundw
          case rel => exact ⟨j + 1, x + f j, by trivial, by go_num, by omega, by trivial, HS.out, by omega, hs⟩
          case measure => simp [intOf]; omega
        · obtain rfl : j = k := by omega
          have j1 : ¬ (j : Int) < (j : Int) := by omega
          clear d0 d1 hlt hlt2 k0 k1 hk hj
          have hj1 : j ≤ 100000 := HN.out
          have s0 : 1 ≤ x := by rw [HX.out]; exact HS0.out
          have hmk := make_row j (by omega)
          have HR0 : Hid (Rl3 w ((w.alloc (.cells (madeCells #[.int .i64 0] j) 2)).alloc (.cells (madeCells #[.int .i64 0] j) 2)) t x f j 0) := Lib.hid (by
            refine ⟨?_, ?_, ((Below.refl _ _).alloc (Nat.le_refl _) _).alloc (by simp) _⟩
            · rw [partG_zero]; exact (RowAt.made w j).alloc _
            · rw [partG_zero]
              have := RowAt.made (w.alloc (.cells (madeCells #[.int .i64 0] j) 2)) j
              simpa using this)
          have HFE : Hid (∀ k, k < j → 0 ≤ f k ∧ f k ≤ x) := Lib.hid (fun k hk => ⟨(HF.out k hk).1, by rw [HX.out]; exact sumF_elem j k hk (fun i hi => (HF.out i hi).1)⟩)
          have HXG : Hid (parts t (sumF f j) f j = parts t x f j) := Lib.hid (by rw [HX.out])
          have b1 : (x == 0) = false := by rw [beq_eq_false_iff_ne]; omega
          go_wp2
          go_loopw [11, 12] (fun v s wr => ∃ i : Nat, v = .int .i64 (left t x f i) ∧ s = .int .i64 i ∧ i ≤ j ∧ Rl3 w wr t x f j i) (fun _ s _ => j - (intOf s).toNat)
          case atStart => exact ⟨0, by simp [left, sumF], rfl, by omega, HR0.out⟩
          case round =>
            clear HR0
            obtain ⟨i, rfl, rfl, hi, hR⟩ := hrel
            have i0 : (0 : Int) ≤ (i : Int) := by omega
            by_cases hij : i < j
            · have i1 : (i : Int) < (j : Int) := by omega
              obtain ⟨b, o, rfl, hbm, h1⟩ := HA.out i hij
              have c1 : wr.cell? ⟨b, o + i, none⟩ = some (.int .i64 (f i)) := (hR.below.cell (p := ⟨b, o + i, none⟩) hbm).trans h1
              have HP := Lib.hid (fun W => (Rf.parts_any t (f i) x W t0 t1 (HF.out i hij).1 (HF.out i hij).2 s0 x1).mono (fun e w' (h : Rf.PartsSaid t (f i) x W e w') => And.intro (h.2.1 (by have := upto_in t x (f i) t0 s0 (HFE.out i hij).1 (HFE.out i hij).2; omega)) h.1))
              have eb : t * f i / x = base t x f i := rfl
              have er : t * f i % x = rest t x f i := rfl
              rw [eb, er] at HP
              have HR := Lib.hid hR
              clear eb er hR h1
              have hl0 := left_mid j s0 HX.out t0 i hi (fun k hk => (HFE.out k hk).1)
              have hl1 := left_le (t := t) (f := f) j s0 t0 i hi (fun k hk => (HFE.out k hk).1)
              have hb0 := base_nonneg (f := f) s0 t0 i (HFE.out i hij).1
              have hb1 := base_le (f := f) s0 t0 i (HFE.out i hij).2
              have HLS := Lib.hid (left_step (t := t) (S := x) (f := f) i)
              obtain ⟨y, hy⟩ : ∃ y, y = base t x f i := ⟨_, rfl⟩
              obtain ⟨z, hz⟩ : ∃ z, z = rest t x f i := ⟨_, rfl⟩
              obtain ⟨L, hL⟩ : ∃ L, L = left t x f i := ⟨_, rfl⟩
              rw [← hy, ← hz] at HP
              rw [← hy] at hb0 hb1
              rw [← hL] at hl0 hl1
              rw [← hL]
              have HE := Lib.hid (And.intro hy (And.intro hz hL))
              clear hy hz hL
              go_wp2_with fail
              refine (HP.out _).mono ?_
              rintro e w3 ⟨rfl, hb⟩
              have HST := Lib.hid (HR.out.step hij hb)
              have hr1 := HR.out.row.below hb
              have hr2 := HR.out.res.below hb
              rw [← HE.out.1, ← HE.out.2.1] at HST
              have c2 := hr1.cell i (by rw [partG_length _ _ _ hi]; exact hij)
              have c3 := Blk.frozen hr1 i
              have c4 := hr2.cell i (by rw [partG_length _ _ _ hi]; exact hij)
              have c5 := Blk.frozen hr2 i
              have HNL : Hid (L - y = left t x f (i + 1)) := Lib.hid (by rw [HLS.out, HE.out.1, HE.out.2.2])
              clear hr1 hr2 hb
              go_wp2
              go_roundw
              case rel => exact ⟨i + 1, by rw [HNL.out], by go_num, by omega, HST.out⟩
              case measure => simp [intOf]; omega
            · obtain rfl : i = j := by omega
              have i1 : ¬ (i : Int) < (i : Int) := by omega
              have hi2 : Hl.Ints wr wr.heap.size (some ⟨w.heap.size + 1, 0, none⟩) i (rest t x f) := by
                have := hR.res.ints
                rw [partG_length _ _ _ (Nat.le_refl _)] at this
                exact this.congr fun k hk => partG_nth _ _ _ _ hk (Nat.le_refl _)
              have HO := Lib.hid (Qu.ref_order (some ⟨w.heap.size + 1, 0, none⟩) i i (rest t x f) wr hi2 (by omega))
              have hl0 := left_nonneg (t := t) i s0 HX.out
              have hl1 := left_lt (t := t) i s0 HX.out
              obtain ⟨J, hJ⟩ : ∃ J : Nat, left t x f i = (J : Int) := ⟨(left t x f i).toNat, by omega⟩
              have hJk : J ≤ i := by omega
              rw [hJ]
              have HJ := Lib.hid hJ
              have HR := Lib.hid hR
              clear hR hi2 hJ hl0 hl1
              go_wp2_with fail
              refine HO.out.mono ?_
              rintro e w2 ⟨A2, c2, rfl, hown, hb2⟩
              have hwz : w.heap.size < wr.heap.size := Blk.lt HR.out.row
              have HR4 : Hid (Rl4 w w2 t x f i 0 A2) := Lib.hid ⟨by rw [List.take_zero, bump_nil]; have := HR.out.row.below hb2; simpa [partG, baseL] using this, PlacesAt.own hown (by rw [Qu.ord_length]) hwz, HR.out.below.trans (hb2.mono HR.out.below.size)⟩
              clear hown hb2 hwz HR HO
              go_wp2
              go_loopw [14] (fun s wx => ∃ m : Nat, s = .int .i64 m ∧ m ≤ J ∧ Rl4 w wx t x f i m A2) (fun s _ => J - (intOf s).toNat)
              case atStart => exact ⟨0, rfl, by omega, HR4.out⟩
              case round =>
                clear HR4
                obtain ⟨m, rfl, hm, hR⟩ := hrel
                have m0 : (0 : Int) ≤ (m : Int) := by omega
                by_cases hlt2 : m < J
                · have m1 : (m : Int) < (J : Int) := by omega
                  have m2 : (m : Int) < (i : Int) := by omega
                  have m3 : (m : Int) ≤ 100000 := by omega
                  obtain ⟨p, hp⟩ : ∃ p, (ord (rest t x f) i)[m]? = some p := ⟨_, List.getElem?_eq_getElem (by rw [Qu.ord_length]; omega)⟩
                  have hpm := ord_place (List.mem_of_getElem? hp)
                  obtain ⟨g, rfl, hg, h1⟩ := hR.pls m p hp
                  have hin := nth_bump_in s0 t0 HFE.out m p.2.toNat hpm.1 (by omega)
                  have hst := hR.step hp
                  have hrow := hR.row.cell p.2.toNat (by rw [bump_length, baseL_length]; exact hpm.1)
                  have hfr := Blk.frozen hR.row p.2.toNat
                  obtain ⟨q, hq⟩ : ∃ q, q = p.2.toNat := ⟨_, rfl⟩
                  have eq : p.2 = (q : Int) := by have := hpm.2; rw [hq]; exact congrArg Prod.snd this
                  rw [← hq] at hin hst hrow hfr
                  rw [eq] at h1
                  have hqk : (q : Int) < (i : Int) := by have := hpm.1; omega
                  have q0 : (0 : Int) ≤ (q : Int) := by omega
                  have HST := Lib.hid hst
                  clear hst hpm hp hq eq hR
                  generalize nth (bump (baseL t x f i) ((ord (rest t x f) i).take m)) q = z at *
                  go_wp2
                  go_roundw
                  case rel => exact ⟨m + 1, by go_num, by omega, HST.out⟩
                  case measure => simp [intOf]; omega
                · obtain rfl : m = J := by omega
                  have m1 : ¬ (m : Int) < (m : Int) := by omega
                  have HG : Hid (Gave (.returned (.tuple #[.slice (some ⟨w.heap.size, 0, none⟩) i i, .int .i64 0])) w wr (parts t (sumF f i) f i, 0)) := Lib.hid (by
                    rw [HXG.out]
                    refine Gave.row parts_length ?_ hR.below
                    have := hR.row
                    unfold parts chosen
                    rw [HJ.out, Int.toNat_natCast]
                    exact this)
                  clear hR HXG
                  go_wp2
                  go_ret2
                  exact HG.out
theorem rlargest_any (t : Int) (A : Option Addr) (n c : Nat) (f : Nat → Int) (w : World) (ha : Hl.Ints w w.heap.size A n f) :
    Calls Tryz.prog 68 #[.int .i64 t, .slice A n c] w fun e w' => Gave e w w' (largR t f n) := by
  by_cases ht : 0 ≤ t ∧ t ≤ 100000000000000
  · by_cases hn : n ≤ 100000
    · cases hb : allOk f n with
      | false =>
        have e : largR t f n = ([], 2) := by unfold largR; rw [hb, Bool.and_false, if_neg (by simp)]
        rw [e]
        refine (rl_w t A n c f w ha ht.1 ht.2 hn hb).mono ?_
        rintro e w' ⟨rfl, rfl⟩
        exact Gave.nil _ _ _ (Below.refl _ _)
      | true =>
        rw [allOk_iff] at hb
        by_cases h5 : 100000000000000 < sumF f n
        · rw [larg_over ht hn hb h5]
          refine (rl_over t A n c f w ha ht.1 ht.2 hn hb h5).mono ?_
          rintro e w' ⟨rfl, rfl⟩
          exact Gave.nil _ _ _ (Below.refl _ _)
        by_cases h0 : sumF f n = 0
        · by_cases hp : 0 < t
          · rw [larg_none ht hn hb h0 hp]
            refine (rl_none t A n c f w ha ht.1 ht.2 hn hb h0 hp).mono ?_
            rintro e w' ⟨rfl, rfl⟩
            exact Gave.nil _ _ _ (Below.refl _ _)
          · rw [larg_zero ht hn hb h0 hp]
            exact rl_zero t A n c f w ha ht.1 ht.2 hn hb h0 (by omega)
        · rw [larg_parts ht hn hb h0 (by omega)]
          have := sumF_nonneg (f := f) n (fun k hk => (hb k hk).1)
          exact rl_parts t A n c f w ha ht.1 ht.2 hn hb (by omega) (by omega)
    · rw [larg_bad t f n (Or.inr (Or.inl (by omega)))]
      refine (rl_n t A n c w ht.1 ht.2 (by omega)).mono ?_
      rintro e w' ⟨rfl, rfl⟩
      exact Gave.nil _ _ _ (Below.refl _ _)
  · rw [larg_bad t f n (Or.inl ht)]
    refine (rl_t t A n c w (by omega)).mono ?_
    rintro e w' ⟨rfl, rfl⟩
    exact Gave.nil _ _ _ (Below.refl _ _)
end Go.Proofs.YtacmoanhbkipfaaGreat.Sh

end
