/- Contracts of the statements' helpers on lists of numbers: Plain. -/
import Derived.Test.YtmggfeacjndflaaRows
import Derived.Test.YtmggfeacjndflaaKit
import Derived.Test.YtmggfeacjndflaaQuW
import Derived.WalkKit
import Derived.ProofKit
import Derived.OpenShut
import Derived.Lib.Hide
import Derived.BigQuiet
import Derived.Deep.QuietTactic
import Derived.LoopTactic
namespace Go.Proofs.Ytmggfeacjndflaa.Hl
open Go.ChangeShapes Go.WideShapes Go.ChangeAt Go.RowKit
set_option linter.unusedVariables false

/-- A slice of n numbers, below block M. -/
def Ints (w : World) (M : Nat) (A : Option Addr) (n : Nat) (f : Nat → Int) : Prop := ∀ k, k < n → ∃ b off, A = some ⟨b, off, none⟩ ∧ b < M ∧ w.cell? ⟨b, off + k, none⟩ = some (.int .i64 (f k))

theorem Ints.below {w w' : World} {M B n : Nat} {A : Option Addr} {f : Nat → Int} (h : Ints w M A n f) (hb : Below B w w') (hM : M ≤ B) : Ints w' M A n f := fun k hk => by
  obtain ⟨b, off, hA, hb1, hc⟩ := h k hk
  exact ⟨b, off, hA, hb1, (hb.cell (p := ⟨b, off + k, none⟩) (by show b < B; omega)).trans hc⟩
theorem Ints.more {w : World} {M M' n : Nat} {A : Option Addr} {f : Nat → Int} (h : Ints w M A n f) (hM : M ≤ M') : Ints w M' A n f := fun k hk => by
  obtain ⟨b, off, hA, hb1, hc⟩ := h k hk
  exact ⟨b, off, hA, by omega, hc⟩
theorem Ints.size {w : World} {M n : Nat} {A : Option Addr} {f : Nat → Int} (h : Ints w M A n f) : Ints w w.heap.size A n f := fun k hk => by
  obtain ⟨b, off, hA, hb1, hc⟩ := h k hk
  exact ⟨b, off, hA, World.block_lt_of_cell? w _ hc, hc⟩
theorem Ints.drewN {w : World} {M n : Nat} {A : Option Addr} {f : Nat → Int} (h : Ints w M A n f) (d : Nat) : Ints (w.drewN d) M A n f := h
theorem Ints.less {w : World} {M n m : Nat} {A : Option Addr} {f : Nat → Int} (h : Ints w M A n f) (hm : m ≤ n) : Ints w M A m f := fun k hk => h k (by omega)
theorem Ints.congr {w : World} {M n : Nat} {A : Option Addr} {f g : Nat → Int} (h : Ints w M A n f) (hfg : ∀ k, k < n → f k = g k) : Ints w M A n g := fun k hk => by
  obtain ⟨b, off, hA, hb1, hc⟩ := h k hk
  exact ⟨b, off, hA, hb1, by rw [hc, hfg k hk]⟩

/-- A list by its index. -/
def at_ (l : List Int) (k : Nat) : Int := l.getD k 0

theorem Ints.own {w : World} {B E : Nat} {A : Option Addr} {n cap : Nat} {l : List Int} (h : w.ownsRow B E 1 (.slice A n cap) n (l.map (Value.int .i64))) : Ints w w.heap.size A n (at_ l) := fun k hk => by
  obtain ⟨g, c, hv, _, hlt⟩ := h.form (by omega)
  cases hv
  refine ⟨g, 0, rfl, hlt, ?_⟩
  have hl : l.length = n := by have := h.1; simpa using this
  rw [Nat.zero_add, h.cellAt k (by omega)]
  unfold at_
  simp [List.getD, hl, hk]

def eqB (n m : Nat) (f g : Nat → Int) : Bool := (n == m) && (List.range n).all fun k => f k == g k

theorem eqB_len {n m : Nat} {f g : Nat → Int} (h : n ≠ m) : eqB n m f g = false := by unfold eqB; rw [beq_eq_false_iff_ne.2 h]; rfl
theorem eqB_no {n : Nat} {f g : Nat → Int} {k : Nat} (hk : k < n) (h : f k ≠ g k) : eqB n n f g = false := by
  unfold eqB
  rw [beq_self_eq_true, Bool.true_and, List.all_eq_false]
  exact ⟨k, List.mem_range.2 hk, by simpa using h⟩
theorem eqB_yes {n : Nat} {f g : Nat → Int} (h : ∀ k, k < n → f k = g k) : eqB n n f g = true := by
  unfold eqB
  rw [beq_self_eq_true, Bool.true_and, List.all_eq_true]
  intro k hk
  simpa using h k (List.mem_range.1 hk)

/-- The same world, but for some draws. -/
def Drawn (w w' : World) : Prop := ∃ d, w' = w.drewN d
theorem Drawn.more {w w' : World} (h : Drawn w w') (n : Nat) : Drawn w (w'.drewN n) := by
  obtain ⟨d, rfl⟩ := h
  exact ⟨d + n, World.drewN_drewN _ _ _⟩
theorem Drawn.below {w w' : World} (h : Drawn w w') (B : Nat) : Below B w w' := by
  obtain ⟨d, rfl⟩ := h
  exact Qu.below_draws (Below.refl _ _) d

theorem one_int (x y : Int) (w : World) : Calls Try.prog 24 #[.int .i64 x, .int .i64 y] w fun e w' => e = .returned (.bool (x == y)) ∧ w' = w := by
  go_enter Try.func24, Try.ntmps24
  go_wp2
  go_ret
  exact ⟨rfl, rfl⟩

set_option maxHeartbeats 1000000 in
theorem same_int (A C : Option Addr) (n m ca cc : Nat) (f g : Nat → Int) (M : Nat) (w : World) (ha : Ints w M A n f) (hc : Ints w M C m g) (hn : n ≤ maxLen) (hm : m ≤ maxLen) :
    Calls Try.prog 23 #[.slice A n ca, .slice C m cc, .func (.func 24) #[] #[]] w fun e w' => e = .returned (.bool (eqB n m f g)) ∧ Drawn w w' := by
  unfold maxLen at hn hm
  by_cases hnm : n = m
  · subst hnm
    have b0 : ((n : Int) != (n : Int)) = false := by simp
    go_enter Try.func23, Try.ntmps23
    go_wp2
    go_loopw [7] (fun s wr => ∃ k : Nat, s = .int .i64 k ∧ k ≤ n ∧ Drawn w wr ∧ ∀ j, j < k → f j = g j) (fun s _ => n - (intOf s).toNat)
    case atStart => exact ⟨0, rfl, by omega, ⟨0, rfl⟩, fun j hj => by omega⟩
    case round =>
      obtain ⟨k, rfl, hk, hD, hE⟩ := hrel
      have HE := Lib.hid hE
      clear hE
      by_cases hlt : k < n
      · obtain ⟨b, o, rfl, _, h1⟩ := ha k hlt
        obtain ⟨b', o', rfl, _, h2⟩ := hc k hlt
        have c1 : wr.cell? ⟨b, o + k, none⟩ = some (.int .i64 (f k)) := by obtain ⟨d, rfl⟩ := hD; exact h1
        have c2 : wr.cell? ⟨b', o' + k, none⟩ = some (.int .i64 (g k)) := by obtain ⟨d, rfl⟩ := hD; exact h2
        have HD := Lib.hid hD
        have k0 : (0 : Int) ≤ (k : Int) := by omega
        have k1 : (k : Int) < (n : Int) := by omega
        have HA := Lib.hid ha
        have HC := Lib.hid hc
        clear ha hc h1 h2 hD
        cases hB : (f k == g k) with
        | true =>
          have ho := fun W => one_int (f k) (g k) W
          rw [hB] at ho
          have HO := Lib.hid ho
          have HB := Lib.hid hB
          clear ho hB
          go_wp2_with fail
          go_quiet ((go_at_call 24; exact Calls.quiet_of_same (HO.out _)))
          go_wp2
          go_roundw
          case rel => exact ⟨k + 1, by go_num, by omega, HD.out.more _, fun j hj => by
            rcases Nat.lt_or_ge j k with h | h
            · exact HE.out j h
            · have : j = k := by omega
              subst this; exact eq_of_beq HB.out⟩
          case measure => simp [intOf]; omega
        | false =>
          have hF := eqB_no (g := g) hlt (beq_eq_false_iff_ne.1 hB)
          have ho := fun W => one_int (f k) (g k) W
          rw [hB] at ho
          have HO := Lib.hid ho
          have HF := Lib.hid hF
          clear ho hF hB
          go_wp2_with fail
          go_quiet ((go_at_call 24; exact Calls.quiet_of_same (HO.out _)))
          go_wp2
          go_ret
          exact ⟨by rw [HF.out]; rfl, HD.out.more _⟩
      · have hF := eqB_yes (n := n) (f := f) (g := g) (fun j hj => HE.out j (by omega))
        have HF := Lib.hid hF
        have k1 : ¬ (k : Int) < (n : Int) := by omega
        clear hF
        go_wp2
        go_ret
        exact ⟨by rw [HF.out]; rfl, hD⟩
  · have b0 : ((n : Int) != (m : Int)) = true := by rw [bne_iff_ne]; omega
    have HF := Lib.hid (eqB_len (f := f) (g := g) hnm)
    clear hnm
    go_enter Try.func23, Try.ntmps23
    go_wp2
    go_ret
    exact ⟨by rw [HF.out]; rfl, ⟨0, rfl⟩⟩

theorem plain_int (A C : Option Addr) (n m ca cc : Nat) (f g : Nat → Int) (M : Nat) (w : World) (ha : Ints w M A n f) (hc : Ints w M C m g) (hn : n ≤ maxLen) (hm : m ≤ maxLen) :
    Calls Try.prog 17 #[.slice A n ca, .slice C m cc] w fun e w' => e = .returned (.bool (eqB n m f g)) ∧ Drawn w w' := by
  have HS := Lib.hid (same_int A C n m ca cc f g M w ha hc hn hm)
  clear ha hc hn hm
  go_enter Try.func17, Try.ntmps17
  go_wp2_with fail
  refine HS.out.mono ?_
  rintro e w1 ⟨rfl, hD⟩
  have HD := Lib.hid hD
  clear hD
  go_wp2
  go_ret
  exact ⟨rfl, HD.out⟩

theorem one_int64 (x y : Int) (w : World) : Calls Try.prog 29 #[.int .i64 x, .int .i64 y] w fun e w' => e = .returned (.bool (x == y)) ∧ w' = w := by
  go_enter Try.func29, Try.ntmps29
  go_wp2
  go_ret
  exact ⟨rfl, rfl⟩

set_option maxHeartbeats 1000000 in
theorem same_int64 (A C : Option Addr) (n m ca cc : Nat) (f g : Nat → Int) (M : Nat) (w : World) (ha : Ints w M A n f) (hc : Ints w M C m g) (hn : n ≤ maxLen) (hm : m ≤ maxLen) :
    Calls Try.prog 28 #[.slice A n ca, .slice C m cc, .func (.func 29) #[] #[]] w fun e w' => e = .returned (.bool (eqB n m f g)) ∧ Drawn w w' := by
  unfold maxLen at hn hm
  by_cases hnm : n = m
  · subst hnm
    have b0 : ((n : Int) != (n : Int)) = false := by simp
    go_enter Try.func28, Try.ntmps28
    go_wp2
    go_loopw [7] (fun s wr => ∃ k : Nat, s = .int .i64 k ∧ k ≤ n ∧ Drawn w wr ∧ ∀ j, j < k → f j = g j) (fun s _ => n - (intOf s).toNat)
    case atStart => exact ⟨0, rfl, by omega, ⟨0, rfl⟩, fun j hj => by omega⟩
    case round =>
      obtain ⟨k, rfl, hk, hD, hE⟩ := hrel
      have HE := Lib.hid hE
      clear hE
      by_cases hlt : k < n
      · obtain ⟨b, o, rfl, _, h1⟩ := ha k hlt
        obtain ⟨b', o', rfl, _, h2⟩ := hc k hlt
        have c1 : wr.cell? ⟨b, o + k, none⟩ = some (.int .i64 (f k)) := by obtain ⟨d, rfl⟩ := hD; exact h1
        have c2 : wr.cell? ⟨b', o' + k, none⟩ = some (.int .i64 (g k)) := by obtain ⟨d, rfl⟩ := hD; exact h2
        have HD := Lib.hid hD
        have k0 : (0 : Int) ≤ (k : Int) := by omega
        have k1 : (k : Int) < (n : Int) := by omega
        have HA := Lib.hid ha
        have HC := Lib.hid hc
        clear ha hc h1 h2 hD
        cases hB : (f k == g k) with
        | true =>
          have ho := fun W => one_int64 (f k) (g k) W
          rw [hB] at ho
          have HO := Lib.hid ho
          have HB := Lib.hid hB
          clear ho hB
          go_wp2_with fail
          go_quiet ((go_at_call 29; exact Calls.quiet_of_same (HO.out _)))
          go_wp2
          go_roundw
          case rel => exact ⟨k + 1, by go_num, by omega, HD.out.more _, fun j hj => by
            rcases Nat.lt_or_ge j k with h | h
            · exact HE.out j h
            · have : j = k := by omega
              subst this; exact eq_of_beq HB.out⟩
          case measure => simp [intOf]; omega
        | false =>
          have hF := eqB_no (g := g) hlt (beq_eq_false_iff_ne.1 hB)
          have ho := fun W => one_int64 (f k) (g k) W
          rw [hB] at ho
          have HO := Lib.hid ho
          have HF := Lib.hid hF
          clear ho hF hB
          go_wp2_with fail
          go_quiet ((go_at_call 29; exact Calls.quiet_of_same (HO.out _)))
          go_wp2
          go_ret
          exact ⟨by rw [HF.out]; rfl, HD.out.more _⟩
      · have hF := eqB_yes (n := n) (f := f) (g := g) (fun j hj => HE.out j (by omega))
        have HF := Lib.hid hF
        have k1 : ¬ (k : Int) < (n : Int) := by omega
        clear hF
        go_wp2
        go_ret
        exact ⟨by rw [HF.out]; rfl, hD⟩
  · have b0 : ((n : Int) != (m : Int)) = true := by rw [bne_iff_ne]; omega
    have HF := Lib.hid (eqB_len (f := f) (g := g) hnm)
    clear hnm
    go_enter Try.func28, Try.ntmps28
    go_wp2
    go_ret
    exact ⟨by rw [HF.out]; rfl, ⟨0, rfl⟩⟩

theorem plain_int64 (A C : Option Addr) (n m ca cc : Nat) (f g : Nat → Int) (M : Nat) (w : World) (ha : Ints w M A n f) (hc : Ints w M C m g) (hn : n ≤ maxLen) (hm : m ≤ maxLen) :
    Calls Try.prog 25 #[.slice A n ca, .slice C m cc] w fun e w' => e = .returned (.bool (eqB n m f g)) ∧ Drawn w w' := by
  have HS := Lib.hid (same_int64 A C n m ca cc f g M w ha hc hn hm)
  clear ha hc hn hm
  go_enter Try.func25, Try.ntmps25
  go_wp2_with fail
  refine HS.out.mono ?_
  rintro e w1 ⟨rfl, hD⟩
  have HD := Lib.hid hD
  clear hD
  go_wp2
  go_ret
  exact ⟨rfl, HD.out⟩

end Go.Proofs.Ytmggfeacjndflaa.Hl
