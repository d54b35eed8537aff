/- What the statements of layer 3 share: awake, weights, sum. -/
import Derived.Test.YtmnbamfemcgloaaShD
import Derived.Test.YtmnbamfemcgloaaHlL
namespace Go.Proofs.Ytmnbamfemcgloaa.Sh
open Go.ChangeShapes Go.WideShapes Go.ChangeAt Go.RowKit
open Qu (Blk IsQ Moved Pt ord)
set_option linter.unusedVariables false

theorem sum_any (A : Option Addr) (n c : Nat) (f : Nat → Int) (M : Nat) (w : World) (ha : Hl.Ints w M A n f) (hn : n ≤ 100000) (hf : ∀ k, k < n → 0 ≤ f k ∧ f k ≤ 10000000000000) :
    Calls Try.prog 22 #[.slice A n c] w fun e w' => e = .returned (.int .i64 (sumF f n)) ∧ Hl.Drawn w w' := by
  have n1 : (n : Int) ≤ 100000 := by omega
  have HF := Lib.hid hf
  clear hf
  go_enter Try.func22, Try.ntmps22
  go_wp2
  go_loopw [3, 4] (fun v s wr => ∃ (k : Nat) (x : Int), v = .int .i64 x ∧ s = .int .i64 k ∧ k ≤ n ∧ Hl.Drawn w wr ∧ x = sumF f k ∧ 0 ≤ x ∧ x ≤ k * 10000000000000) (fun _ s _ => n - (intOf s).toNat)
  case atStart => exact ⟨0, 0, rfl, rfl, by omega, ⟨0, rfl⟩, rfl, by omega, by omega⟩
  case round =>
    obtain ⟨k, x, rfl, rfl, hk, hD, hx, x0, x1⟩ := hrel
    have HX := Lib.hid hx
    clear hx
    have k0 : (0 : Int) ≤ (k : Int) := by omega
    by_cases hlt : k < n
    · obtain ⟨b, o, rfl, hbm, h1⟩ := ha k hlt
      have c1 : wr.cell? ⟨b, o + k, none⟩ = some (.int .i64 (f k)) := by obtain ⟨d, rfl⟩ := hD; exact h1
      have k1 : (k : Int) < (n : Int) := by omega
      have hfk := HF.out k hlt
      have HS : Hid (x + f k = sumF f (k + 1)) := Lib.hid (by rw [HX.out]; rfl)
      have HA := Lib.hid ha
      have HD := Lib.hid hD
      clear ha hD h1
      go_wp2
      go_roundw
      case rel => exact ⟨k + 1, x + f k, by trivial, by go_num, by omega, HD.out, HS.out, by omega, by omega⟩
      case measure => simp [intOf]; omega
    · obtain rfl : k = n := by omega
      have k1 : ¬ (k : Int) < (k : Int) := by omega
      go_wp2
      go_ret
      exact ⟨by rw [HX.out]; rfl, hD⟩

/-- A row that grows, of numbers below most. -/
structure Wts (w wr : World) (v : Value) (i : Nat) (most : Int) (l : List Int) : Prop where
  own : wr.ownsRow w.heap.size 2 1 v i (l.map (Value.int .i64))
  below : Below w.heap.size w wr
  small : ∀ x ∈ l, 0 ≤ x ∧ x < most

def Weighed (e : Ending) (w w' : World) (most : Int) : Prop := ∃ A m c g, e = .returned (.slice A m c) ∧ Hl.Ints w' w'.heap.size A m g ∧ m ≤ 60 ∧ (∀ k, k < m → 0 ≤ g k ∧ g k < most) ∧ Below w.heap.size w w'

theorem Wts.done {w wr : World} {A : Option Addr} {i c : Nat} {most : Int} {l : List Int} (h : Wts w wr (.slice A i c) i most l) (hi : i ≤ 60) : Weighed (.returned (.slice A i c)) w wr most := by
  have hl : l.length = i := by have := h.own.1; simpa using this
  refine ⟨A, i, c, Hl.at_ l, rfl, Hl.Ints.own h.own, hi, fun k hk => ?_, h.below⟩
  have hk2 : k < l.length := by omega
  have e : Hl.at_ l k = l[k] := by unfold Hl.at_; simp [List.getD, hk2]
  rw [e]
  exact h.small _ (List.getElem_mem hk2)

set_option maxHeartbeats 1000000 in
theorem weights_any (A : Option Addr) (n c : Nat) (f : Nat → Int) (most : Int) (w : World) (ha : Hl.Ints w w.heap.size A n f) (hn : n ≤ 9223372036854775807) (m0 : 1 ≤ most) (m1 : most ≤ 9223372036854775807) :
    Calls Try.prog 21 #[.slice A n c, .int .i64 most] w fun e w' => Weighed e w w' most := by
  obtain ⟨i0, hi0, hz0, hz1, hz2⟩ := info_parts info_row
  have HA := Lib.hid ha
  clear ha
  go_enter Try.func21, Try.ntmps21
  go_wp2
  go_loopw [5, 6] (fun v s wr => ∃ (i : Nat) (A' : Option Addr) (c' : Nat) (l : List Int), v = .slice A' i c' ∧ s = .int .i64 i ∧ i ≤ n ∧ i ≤ 60 ∧ Wts w wr (.slice A' i c') i most l) (fun _ s _ => n - (intOf s).toNat)
  case atStart => exact ⟨0, none, 0, [], rfl, rfl, by omega, by omega, ⟨World.ownsRow_nil _ _ _ _, Below.refl _ _, fun x hx => by cases hx⟩⟩
  case round =>
    obtain ⟨i, A', c', l, rfl, rfl, hi, hi6, hW⟩ := hrel
    have k0 : (0 : Int) ≤ (i : Int) := by omega
    have k6 : (i : Int) ≤ 60 := by omega
    by_cases hlt : i < n
    · have k1 : (i : Int) < (n : Int) := by omega
      by_cases h60 : i < 60
      · have k2 : (i : Int) < 60 := by omega
        obtain ⟨b, o, rfl, hbm, h1⟩ := HA.out i hlt
        have c1 : wr.cell? ⟨b, o + i, none⟩ = some (.int .i64 (f i)) := (hW.below.cell (p := ⟨b, o + i, none⟩) hbm).trans h1
        have HW := Lib.hid hW
        clear h1 hW
        go_wp2_with fail
        refine (Mn.mod64_any _ _ _ m0 m1).mono ?_
        rintro e w1 ⟨⟨r, r0, r1, rfl⟩, rfl⟩
        go_wp2_with ((at_builtin; refine wpList_append_lies _ rfl _ _ 22 rfl w.heap.size 2 i0 _ 1 8 Try.underlying22 hi0 hz0 hz1 hz2 rfl (by omega) _ _ _ rfl (HW.out.own.alloc _) ⟨wr.heap.size, 0, none⟩ 1 1 [.int .i64 r] rfl rfl (World.news_of_block (cs := #[.int .i64 r]) (t := 2) (fr := (0, 0)) (heap_alloc_new wr _)) (by simp [Value.oneCell']) (by omega) (by unfold maxLen; omega) (by omega) (by have := HW.out.below.size; simp; omega) (wr.heap.size + 1) (by simp) ?_; intro g2 cp w4 hown hgrow hat hlt2))
        have HW4 : Hid (Wts w w4 (.slice (some ⟨g2, 0, none⟩) (i + 1) cp) (i + 1) most (l ++ [r])) := Lib.hid (by
          have hB := HW.out.below
          refine ⟨?_, (hB.alloc hB.size _).grown hgrow (by have := hB.size; simp; omega) fun j hj => (HW.out.own.lt j hj).1, ?_⟩
          · rw [List.map_append]; exact hown
          · intro y hy
            rcases List.mem_append.1 hy with h | h
            · exact HW.out.small y h
            · rcases List.mem_singleton.1 h with rfl
              exact ⟨r0, r1⟩)
        clear hown hgrow hat hlt2
        go_wp2
        go_roundw
        case rel => exact ⟨i + 1, some ⟨g2, 0, none⟩, cp, l ++ [r], by trivial, by go_num, by omega, by omega, HW4.out⟩
        case measure => simp [intOf]; omega
      · have k2 : ¬ (i : Int) < 60 := by omega
        have HW := Lib.hid (hW.done hi6)
        clear hW
        go_wp2
        go_ret
        exact HW.out
    · have k1 : ¬ (i : Int) < (n : Int) := by omega
      have HW := Lib.hid (hW.done hi6)
      clear hW
      go_wp2
      go_ret
      exact HW.out

theorem awake_eq : largR 10 (nth [1, 1, 1]) 3 = ([4, 3, 3], 0) := by decide +kernel

theorem nth_at (l : List Int) : nth l = Hl.at_ l := rfl

theorem awake3 (w : World) : Calls Try.prog 10 #[] w fun e w' => e = .returned (.bool true) ∧ Below w.heap.size w w' := by
  have HL := Lib.hid (largest_any 10 (some ⟨w.heap.size, 0, none⟩) 3 3 (nth [1, 1, 1]) (w.alloc (.cells #[.int .i64 1, .int .i64 1, .int .i64 1] 2)) (RowAt.ints (l := [1, 1, 1]) (Blk.new _ _ _)))
  rw [awake_eq] at HL
  go_enter Try.func10, Try.ntmps10
  go_wp2_with fail
  refine HL.out.mono ?_
  rintro e w1 ⟨A, c, rfl, hi, hb⟩
  have HB := Lib.hid (((Below.refl w.heap.size w).alloc (Nat.le_refl _) (.cells #[.int .i64 1, .int .i64 1, .int .i64 1] 2)).trans (hb.mono (by simp)))
  have HP := Lib.hid (Hl.plain_int64 A (some ⟨w1.heap.size, 0, none⟩) 3 3 c 3 (nth [4, 3, 3]) (nth [4, 3, 3]) (w1.heap.size + 1) (w1.alloc (.cells #[.int .i64 4, .int .i64 3, .int .i64 3] 2))
    ((hi.below (B := w1.heap.size) ((Below.refl _ _).alloc (Nat.le_refl _) _) (Nat.le_refl _)).more (by omega)) ((RowAt.ints (l := [4, 3, 3]) (Blk.new _ _ _)).more (by simp)) (by decide) (by decide))
  rw [Hl.eqB_yes (fun k hk => rfl)] at HP
  clear hi hb HL
  go_wp2_with fail
  refine HP.out.mono ?_
  rintro e w2 ⟨rfl, hD⟩
  have HF := Lib.hid ((HB.out.alloc HB.out.size (.cells #[.int .i64 4, .int .i64 3, .int .i64 3] 2)).trans (hD.below _))
  clear hD
  go_wp2
  all_goals
    go_ret
    exact ⟨rfl, HF.out⟩

end Go.Proofs.Ytmnbamfemcgloaa.Sh
