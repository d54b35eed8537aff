/- The document's Promos: whether promotions may be together. -/
import Derived.BigQuiet
import Derived.Test.YtfcmhgneijipgaaGreatPk12
import Derived.Test.YtfcmhgneijipgaaGreatPk9

set_option maxRecDepth 100000
set_option linter.unusedVariables false
namespace Go.Proofs.YtfcmhgneijipgaaGreat.Pm
open Go.ChangeShapes Go.WideShapes Go.ChangeAt Go.RowKit
open Ap (Scp Prt Tir Prm kPrm row_Prm)
open Kd (Row Lst kStr)
open Pr (promoB PrmSmall PartsSmall)
structure UpTo (xs : List Prm) (k : Nat) : Prop where
  each : ∀ (i : Nat) (p : Prm), i < k → xs[i]? = some p → promoB p = true
  apart : ∀ (i j : Nat) (p q : Prm), i < j → j < k → xs[i]? = some p → xs[j]? = some q → p.id ≠ q.id
theorem UpTo.begin (xs : List Prm) : UpTo xs 0 := ⟨fun i p hi => by omega, fun i j p q _ hj => by omega⟩
theorem UpTo.next {xs : List Prm} {k : Nat} {p : Prm} (h : UpTo xs k) (hp : xs[k]? = some p) (hb : promoB p = true) (ha : ∀ (i : Nat) (q : Prm), i < k → xs[i]? = some q → q.id ≠ p.id) : UpTo xs (k + 1) :=
  ⟨fun i q hi hq => by
    rcases Nat.lt_or_ge i k with h1 | h1
    · exact h.each i q h1 hq
    · obtain rfl : i = k := by omega
      rw [hp] at hq; injection hq with hq; subst hq; exact hb,
   fun i j a b hij hj h1 h2 => by
    rcases Nat.lt_or_ge j k with h3 | h3
    · exact h.apart i j a b hij h3 h1 h2
    · obtain rfl : j = k := by omega
      rw [hp] at h2; injection h2 with h2; subst h2; exact ha i a hij h1⟩
theorem UpTo.all {xs : List Prm} {n : Nat} (h : UpTo xs n) (hl : xs.length = n) : promosB xs = decide (n ≤ 60) := by
  by_cases h6 : n ≤ 60
  · rw [decide_eq_true h6]
    exact promosB_yes ⟨by omega, fun i p hp => h.each i p (by have := (List.getElem?_eq_some_iff.1 hp).1; omega) hp, fun i j p q hij hp hq => h.apart i j p q hij (by have := (List.getElem?_eq_some_iff.1 hq).1; omega) hp hq⟩
  · rw [decide_eq_false h6]
    exact promosB_no fun g => h6 (by have := g.few; omega)
set_option maxHeartbeats 2000000 in
theorem rpromos_any (A : Option Addr) (n c : Nat) (xs : List Prm) (w : World) (h : Row kPrm w (· < w.heap.size) A n xs) (hS : Slights xs) (hn : n ≤ 1000000000) :
    Calls Tryz.prog 36 #[.slice A n c] w fun e w' => e = .returned (.bool (promosB xs)) ∧ Below w.heap.size w w' := by
  have HL := Lib.hid h.len
  have HR := Lib.hid (And.intro h hS)
  have HK0 : Hid (Below w.heap.size w w ∧ UpTo xs 0) := Lib.hid ⟨Below.refl _ _, UpTo.begin xs⟩
  clear h hS
  go_enter Tryz.func36, Tryz.ntmps36
  go_wp2
  go_loopw [3] (fun s3 wr => ∃ k : Nat, s3 = .int .i64 k ∧ k ≤ n ∧ Hid (Below w.heap.size w wr ∧ UpTo xs k)) (fun s3 _ => n - (intOf s3).toNat)
  case atStart => exact ⟨0, rfl, by omega, HK0⟩
  case round =>
    clear HK0
    obtain ⟨k, rfl, hk, HK⟩ := hrel
    have k0 : (0 : Int) ≤ (k : Int) := by omega
    by_cases hlt : k < n
    · have k1 : (k : Int) < (n : Int) := by omega
      obtain ⟨p, hx⟩ := HR.out.1.get hlt
      obtain ⟨g, o, l, rfl, _, hgs, hh, c0, c1, c2, c3, c4, c5, c6, c7, c8, c9, c10, c11, c12, c13, c14⟩ := row_Prm (HR.out.1.below HK.out.1 (Nat.le_refl _)) hx
      have hh2 : Ap.Prm.Holds wr (· < wr.heap.size) p l := by
        obtain ⟨i1, i2, i3, i4, i5, i6, i7, i8, i9, i10, i11, i12, i13⟩ := hh
        have hz := HK.out.1.size
        exact ⟨i1, i2, i3, i4, i5, ⟨i6.skus.more fun b hb => Nat.lt_of_lt_of_le hb hz, i6.cats.more fun b hb => Nat.lt_of_lt_of_le hb hz⟩, i7, i8, i9, i10, i11, i12.more fun b hb => Nat.lt_of_lt_of_le hb hz, i13.more fun b hb => Nat.lt_of_lt_of_le hb hz⟩
      have HC := Lib.hid (Pr.rpromo_any p l wr hh2 ((HR.out.2 k p hx).small hh2))
      have HX := Lib.hid hx
      have HZ := Lib.hid hgs
      clear hx hh hh2 hgs
      cases hB : promoB p with
      | false =>
        rw [hB] at HC
        have HG : Hid (promosB xs = false) := Lib.hid (promosB_no fun g => by have := g.each k p HX.out; rw [hB] at this; cases this)
        clear hB
        go_wp2_with fail
        refine HC.out.mono ?_
        rintro e w1 ⟨rfl, hb⟩
        have HB2 := Lib.hid (HK.out.1.trans (hb.mono HK.out.1.size))
        clear hb
        go_wp2
        go_ret
        exact ⟨by rw [HG.out]; rfl, HB2.out⟩
      | true =>
        rw [hB] at HC
        have HB := Lib.hid hB
        clear hB
        go_wp2_with fail
        refine HC.out.mono ?_
        rintro e w1 ⟨rfl, hb⟩
        have HB2 := Lib.hid (HK.out.1.trans (hb.mono HK.out.1.size))
        have HA0 : Hid (Below w.heap.size w w1 ∧ ∀ (i : Nat) (q : Prm), i < 0 → xs[i]? = some q → q.id ≠ p.id) := Lib.hid ⟨HB2.out, fun i q hi => by omega⟩
        clear hb c0 c1 c2 c3 c4 c5 c6 c7 c8 c9 c10 c11 c12 c13 c14
        go_wp2
        go_loopw [4] (fun s4 wi => ∃ j : Nat, s4 = .int .i64 j ∧ j ≤ k ∧ Hid (Below w.heap.size w wi ∧ ∀ (i : Nat) (q : Prm), i < j → xs[i]? = some q → q.id ≠ p.id)) (fun s4 _ => k - (intOf s4).toNat)
        case atStart => exact ⟨0, rfl, by omega, HA0⟩
        case round =>
          clear HA0
          obtain ⟨j, rfl, hj, HJ⟩ := hrel
          have j0 : (0 : Int) ≤ (j : Int) := by omega
          by_cases hjk : j < k
          · have j1 : (j : Int) < (k : Int) := by omega
            have j2 : (j : Int) < (n : Int) := by omega
            have hjn : j < n := by omega
            obtain ⟨q, hq⟩ := HR.out.1.get hjn
            obtain ⟨g2, o2, l2, e2, _, _, _, d0, _⟩ := row_Prm (HR.out.1.below HJ.out.1 (Nat.le_refl _)) hq
            injection e2 with e2
            injection e2 with e3 e4
            subst e3 e4
            obtain ⟨g3, o3, l3, e5, _, _, _, c0, _⟩ := row_Prm (HR.out.1.below HJ.out.1 (Nat.le_refl _)) HX.out
            injection e5 with e5
            injection e5 with e6 e7
            subst e6 e7
            have HQ := Lib.hid hq
            have hs : (q.id.toList == p.id.toList) = Sr.same q.id p.id := rfl
            clear hq
            cases hS : Sr.same q.id p.id with
            | true =>
              have HG : Hid (promosB xs = false) := Lib.hid (promosB_no fun g => g.apart j k q p hjk HQ.out HX.out (Sr.same_iff.1 hS))
              rw [hS] at hs
              clear hS
              go_wp2_with fail
              go_quiet (fail)
              have HJ2 := Lib.hid (Qu.below_draws HJ.out.1 nq)
              go_wp2
              go_ret
              exact ⟨by rw [HG.out]; rfl, HJ2.out⟩
            | false =>
              have hne : q.id ≠ p.id := fun e => by rw [Sr.same_iff.2 e] at hS; cases hS
              have HJ2 : Hid (∀ d, Below w.heap.size w (wr.drewN d) ∧ ∀ (i : Nat) (q : Prm), i < j + 1 → xs[i]? = some q → q.id ≠ p.id) := Lib.hid fun d => ⟨Qu.below_draws HJ.out.1 d, fun i y hi hy => by
                rcases Nat.lt_or_ge i j with h1 | h1
                · exact HJ.out.2 i y h1 hy
                · obtain rfl : i = j := by omega
                  rw [HQ.out] at hy; injection hy with hy; subst hy; exact hne⟩
              rw [hS] at hs
              clear hS hne
              go_wp2_with fail
              go_quiet (fail)
              go_wp2
              go_roundw
              case rel => exact ⟨j + 1, by go_num, by omega, Lib.hid (HJ2.out _)⟩
              case measure => simp [intOf]; omega
          · obtain rfl : j = k := by omega
            have j1 : ¬ (j : Int) < (j : Int) := by omega
            have HK2 := Lib.hid (And.intro HJ.out.1 (HK.out.2.next HX.out HB.out HJ.out.2))
            go_wp2
            go_roundw
            case rel => exact ⟨j + 1, by go_num, by omega, HK2⟩
            case measure => simp [intOf]; omega
    · obtain rfl : k = n := by omega
      have k1 : ¬ (k : Int) < (k : Int) := by omega
      have hG : promosB xs = decide (k ≤ 60) := HK.out.2.all HL.out
      by_cases h6 : k ≤ 60
      · have k6 : (k : Int) ≤ 60 := by omega
        have HG : Hid (promosB xs = true) := Lib.hid (by rw [hG]; exact decide_eq_true h6)
        clear hG
        go_wp2
        go_ret
        exact ⟨by rw [HG.out]; rfl, HK.out.1⟩
      · have k6 : ¬ (k : Int) ≤ 60 := by omega
        have HG : Hid (promosB xs = false) := Lib.hid (by rw [hG]; exact decide_eq_false h6)
        clear hG
        go_wp2
        go_ret
        exact ⟨by rw [HG.out]; rfl, HK.out.1⟩
end Go.Proofs.YtfcmhgneijipgaaGreat.Pm
