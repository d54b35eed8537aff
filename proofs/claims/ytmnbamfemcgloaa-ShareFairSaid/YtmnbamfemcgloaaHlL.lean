/- Contracts of the statements' helpers on lists of numbers: Plain over int64. -/
import Derived.Test.YtmnbamfemcgloaaHlA
namespace Go.Proofs.Ytmnbamfemcgloaa.Hl
open Go.ChangeShapes Go.WideShapes Go.ChangeAt Go.RowKit
set_option linter.unusedVariables false

theorem one_int64 (x y : Int) (w : World) : Calls Try.prog 35 #[.int .i64 x, .int .i64 y] w fun e w' => e = .returned (.bool (x == y)) ∧ w' = w := by
  go_enter Try.func35, Try.ntmps35
  go_wp2
  go_ret
  exact ⟨rfl, rfl⟩

set_option maxHeartbeats 1000000 in
theorem same_int64 (A C : Option Addr) (n m ca cc : Nat) (f g : Nat → Int) (M : Nat) (w : World) (ha : Ints w M A n f) (hc : Ints w M C m g) (hn : n ≤ maxLen) (hm : m ≤ maxLen) :
    Calls Try.prog 34 #[.slice A n ca, .slice C m cc, .func (.func 35) #[] #[]] w fun e w' => e = .returned (.bool (eqB n m f g)) ∧ Drawn w w' := by
  unfold maxLen at hn hm
  by_cases hnm : n = m
  · subst hnm
    have b0 : ((n : Int) != (n : Int)) = false := by simp
    go_enter Try.func34, Try.ntmps34
    go_wp2
    go_loopw [7] (fun s wr => ∃ k : Nat, s = .int .i64 k ∧ k ≤ n ∧ Drawn w wr ∧ ∀ j, j < k → f j = g j) (fun s _ => n - (intOf s).toNat)
    case atStart => exact ⟨0, rfl, by omega, ⟨0, rfl⟩, fun j hj => by omega⟩
    case round =>
      obtain ⟨k, rfl, hk, hD, hE⟩ := hrel
      have HE := Lib.hid hE
      clear hE
      by_cases hlt : k < n
      · obtain ⟨b, o, rfl, _, h1⟩ := ha k hlt
        obtain ⟨b', o', rfl, _, h2⟩ := hc k hlt
        have c1 : wr.cell? ⟨b, o + k, none⟩ = some (.int .i64 (f k)) := by obtain ⟨d, rfl⟩ := hD; exact h1
        have c2 : wr.cell? ⟨b', o' + k, none⟩ = some (.int .i64 (g k)) := by obtain ⟨d, rfl⟩ := hD; exact h2
        have HD := Lib.hid hD
        have k0 : (0 : Int) ≤ (k : Int) := by omega
        have k1 : (k : Int) < (n : Int) := by omega
        have HA := Lib.hid ha
        have HC := Lib.hid hc
        clear ha hc h1 h2 hD
        cases hB : (f k == g k) with
        | true =>
          have ho := fun W => one_int64 (f k) (g k) W
          rw [hB] at ho
          have HO := Lib.hid ho
          have HB := Lib.hid hB
          clear ho hB
          go_wp2_with fail
          go_quiet ((go_at_call 35; exact Calls.quiet_of_same (HO.out _)))
          go_wp2
          go_roundw
          case rel => exact ⟨k + 1, by go_num, by omega, HD.out.more _, fun j hj => by
            rcases Nat.lt_or_ge j k with h | h
            · exact HE.out j h
            · have : j = k := by omega
              subst this; exact eq_of_beq HB.out⟩
          case measure => simp [intOf]; omega
        | false =>
          have hF := eqB_no (g := g) hlt (beq_eq_false_iff_ne.1 hB)
          have ho := fun W => one_int64 (f k) (g k) W
          rw [hB] at ho
          have HO := Lib.hid ho
          have HF := Lib.hid hF
          clear ho hF hB
          go_wp2_with fail
          go_quiet ((go_at_call 35; exact Calls.quiet_of_same (HO.out _)))
          go_wp2
          go_ret
          exact ⟨by rw [HF.out]; rfl, HD.out.more _⟩
      · have hF := eqB_yes (n := n) (f := f) (g := g) (fun j hj => HE.out j (by omega))
        have HF := Lib.hid hF
        have k1 : ¬ (k : Int) < (n : Int) := by omega
        clear hF
        go_wp2
        go_ret
        exact ⟨by rw [HF.out]; rfl, hD⟩
  · have b0 : ((n : Int) != (m : Int)) = true := by rw [bne_iff_ne]; omega
    have HF := Lib.hid (eqB_len (f := f) (g := g) hnm)
    clear hnm
    go_enter Try.func34, Try.ntmps34
    go_wp2
    go_ret
    exact ⟨by rw [HF.out]; rfl, ⟨0, rfl⟩⟩

theorem plain_int64 (A C : Option Addr) (n m ca cc : Nat) (f g : Nat → Int) (M : Nat) (w : World) (ha : Ints w M A n f) (hc : Ints w M C m g) (hn : n ≤ maxLen) (hm : m ≤ maxLen) :
    Calls Try.prog 18 #[.slice A n ca, .slice C m cc] w fun e w' => e = .returned (.bool (eqB n m f g)) ∧ Drawn w w' := by
  have HS := Lib.hid (same_int64 A C n m ca cc f g M w ha hc hn hm)
  clear ha hc hn hm
  go_enter Try.func18, Try.ntmps18
  go_wp2_with fail
  refine HS.out.mono ?_
  rintro e w1 ⟨rfl, hD⟩
  have HD := Lib.hid hD
  clear hD
  go_wp2
  go_ret
  exact ⟨rfl, HD.out⟩

end Go.Proofs.Ytmnbamfemcgloaa.Hl
