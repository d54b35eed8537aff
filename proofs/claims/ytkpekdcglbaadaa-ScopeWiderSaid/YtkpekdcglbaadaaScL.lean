/- Law 11's few. -/
import Derived.Test.YtkpekdcglbaadaaScI
set_option maxRecDepth 100000

set_option linter.unusedVariables false
namespace Go.Proofs.Ytkpekdcglbaadaa.Sc
open Go.ChangeShapes Go.WideShapes Go.ChangeAt Go.RowKit
open Kd (Kind Row Own Cells Fit Agree kStr row_str Lst Sl)
open Ap (Scp kScp Scp_rep row_Scp)

/-- Is a scope not too great? -/
def lessB (s : Scp) : Bool := decide (s.skus.length ≤ 40) && decide (s.cats.length ≤ 40)

/-- Are they not too many? -/
def fewB (ss : List Scp) : Bool := ss.all lessB && decide (ss.length ≤ 20)

theorem fewB_no {ss : List Scp} {k : Nat} {s : Scp} (hs : ss[k]? = some s) (h : lessB s = false) : fewB ss = false := by
  unfold fewB
  rw [List.all_eq_false.2 ⟨s, List.mem_of_getElem? hs, by simp [h]⟩]
  rfl

theorem fewB_end {ss : List Scp} (h : ∀ (k : Nat) (s : Scp), ss[k]? = some s → lessB s = true) : fewB ss = decide (ss.length ≤ 20) := by
  unfold fewB
  rw [List.all_eq_true.2 fun s hs => by
    obtain ⟨k, hk, e⟩ := List.mem_iff_getElem.1 hs
    exact h k s (by rw [← e]; exact List.getElem?_eq_getElem _)]
  rfl

theorem fewB_yes {ss : List Scp} (h : fewB ss = true) : ss.length ≤ 20 ∧ ∀ (k : Nat) (s : Scp), ss[k]? = some s → s.skus.length ≤ 40 ∧ s.cats.length ≤ 40 := by
  unfold fewB lessB at h
  simp only [Bool.and_eq_true, List.all_eq_true, decide_eq_true_eq] at h
  exact ⟨h.2, fun k s hs => h.1 s (List.mem_of_getElem? hs)⟩

set_option maxHeartbeats 1000000 in
theorem few_any (A : Option Addr) (n c : Nat) (ss : List Scp) (F : Nat → Prop) (w : World) (h : Row kScp w F A n ss) (hn : n ≤ 9223372036854775807) :
    Calls Try.prog 7 #[.slice A n c] w fun e w' => e = .returned (.bool (fewB ss)) ∧ w' = w := by
  have hl := h.len
  have HR := Lib.hid (And.intro h hl)
  have HE0 : Hid (∀ (j : Nat) (s : Scp), j < 0 → ss[j]? = some s → lessB s = true) := Lib.hid fun j s hj => by omega
  clear h hl
  go_enter Try.func7, Try.ntmps7
  go_wp2
  go_loopw [3] (fun s3 wr => ∃ k : Nat, s3 = .int .i64 k ∧ k ≤ n ∧ wr = w ∧ Hid (∀ (j : Nat) (s : Scp), j < k → ss[j]? = some s → lessB s = true)) (fun s3 _ => n - (intOf s3).toNat)
  case atStart => exact ⟨0, rfl, by omega, by trivial, HE0⟩
  case round =>
    clear HE0
    obtain ⟨k, rfl, hk, rfl, hE⟩ := hrel
    have k0 : (0 : Int) ≤ (k : Int) := by omega
    by_cases hlt : k < n
    · have k1 : (k : Int) < (n : Int) := by omega
      obtain ⟨s, hs⟩ := HR.out.1.get hlt
      obtain ⟨g, o, l, rfl, hg1, hg2, hh, a0, a1⟩ := row_Scp HR.out.1 hs
      have l1 := hh.skus.row.len
      have l2 := hh.cats.row.len
      have HS := Lib.hid (And.intro hs (And.intro l1 l2))
      clear hs hh hg1 l1 l2
      by_cases h1 : l.skus.n ≤ 40
      · have g1 : ¬ (40 : Int) < (l.skus.n : Int) := by omega
        by_cases h2 : l.cats.n ≤ 40
        · have g2 : ¬ (40 : Int) < (l.cats.n : Int) := by omega
          have HE2 : Hid (∀ (j : Nat) (s : Scp), j < k + 1 → ss[j]? = some s → lessB s = true) := Lib.hid fun j s' hj hs' => by
            rcases Nat.lt_or_ge j k with hji | hji
            · exact hE.out j s' hji hs'
            · obtain rfl : j = k := by omega
              rw [HS.out.1] at hs'
              injection hs' with hs'
              subst hs'
              unfold lessB
              rw [HS.out.2.1, HS.out.2.2]
              simp [h1, h2]
          go_wp2
          go_roundw
          case rel => exact ⟨k + 1, by go_num, by omega, by trivial, HE2⟩
          case measure => simp [intOf]; omega
        · have g2 : (40 : Int) < (l.cats.n : Int) := by omega
          have HG : Hid (fewB ss = false) := Lib.hid (fewB_no HS.out.1 (by unfold lessB; rw [HS.out.2.2]; simp [h2]))
          go_wp2
          go_ret
          exact ⟨by rw [HG.out]; rfl, rfl⟩
      · have g1 : (40 : Int) < (l.skus.n : Int) := by omega
        have HG : Hid (fewB ss = false) := Lib.hid (fewB_no HS.out.1 (by unfold lessB; rw [HS.out.2.1]; simp [h1]))
        go_wp2
        go_ret
        exact ⟨by rw [HG.out]; rfl, rfl⟩
    · obtain rfl : k = n := by omega
      have HG : Hid (fewB ss = decide ((k : Int) ≤ 20)) := Lib.hid (by
        rw [fewB_end fun j s hs => hE.out j s (by
          have := (List.getElem?_eq_some_iff.1 hs).1
          have := HR.out.2
          omega) hs, HR.out.2]
        exact decide_eq_decide.2 (by omega))
      go_wp2
      go_ret
      exact ⟨by rw [HG.out]; rfl, rfl⟩

end Go.Proofs.Ytkpekdcglbaadaa.Sc
