/- Contract of container/heap's down over a queue's line. -/
import Derived.Test.YtmnbamfemcgloaaQuD
namespace Go.Proofs.Ytmnbamfemcgloaa.Qu
open Go.ChangeShapes Go.WideShapes Go.ChangeAt Go.RowKit
set_option linter.unusedVariables false
set_option maxRecDepth 100000

def Downed (e : Ending) (w w' : World) (B q g n cap : Nat) (a : Array Pt) : Prop := (∃ r : Bool, e = .returned (.bool r)) ∧ ∃ b, Turned w w' B q g (n + 1) cap a b ∧ Heap b n ∧ gt b n = gt a n

set_option maxHeartbeats 1000000 in
theorem down_any (q g n cap : Nat) (a : Array Pt) (B : Nat) (w : World) (h : QAt w B q (.slice (some ⟨g, 0, none⟩) ((n + 1 : Nat)) cap) a) (hs : a.size = n + 1) (hu : HeapDown a n 0) (hn : n ≤ 999999999) :
    Calls Try.prog 53 #[.iface 79 (.pointer (some ⟨q, 0, none⟩)), .int .i64 0, .int .i64 n] w fun e w' => Downed e w w' B q g n cap a := by
  go_enter Try.func53, Try.ntmps53
  go_wp2
  go_loopw [7] (fun s wr => ∃ (k : Nat) (b : Array Pt), s = .int .i64 k ∧ k ≤ n ∧ Turned w wr B q g (n + 1) cap a b ∧ HeapDown b n k ∧ gt b n = gt a n) (fun s _ => (n - intOf s).toNat)
  case atStart => exact ⟨0, a, rfl, by omega, Turned.start h hs, hu, rfl⟩
  case round =>
    obtain ⟨k, b, rfl, hk, hT, hU, hE⟩ := hrel
    have HT := Lib.hid hT
    have HU := Lib.hid hU
    have HE := Lib.hid hE
    have nn : (n : Int) ≤ 999999999 := by omega
    have k1 : (k : Int) ≤ 999999999 := by omega
    have hsz := hT.size
    have hown := hT.own
    have hq0 := hT.cellq
    have HS := Lib.hid hsz
    clear hT hU hE hu h hs hsz
    obtain ⟨c, hc⟩ : ∃ c, c = 2 * k + 1 := ⟨_, rfl⟩
    have e1 : 2 * (k : Int) + 1 = (c : Int) := by omega
    have c0 : (0 : Int) ≤ (c : Int) := by omega
    have c1 : (c : Int) ≤ 2000000000 := by omega
    by_cases hcn : n ≤ c
    · have hcn' : (n : Int) ≤ (c : Int) := by omega
      have HC := Lib.hid hc
      have HF : Hid (Heap b n) := Lib.hid (HU.out.done fun i i0 hi hp => by omega)
      clear hc hown hq0
      go_wp2
      all_goals
        go_ret
        exact ⟨⟨_, rfl⟩, b, HT.out, HF.out, HE.out⟩
    · have hcn1 : c < n := by omega
      have hcn' : (c : Int) < (n : Int) := by omega
      have mL := method_less q _ (n + 1) cap wr hq0
      obtain ⟨d, hd⟩ : ∃ d, d = c + 1 := ⟨_, rfl⟩
      have e2 : (c : Int) + 1 = (d : Int) := by omega
      have d0 : (0 : Int) ≤ (d : Int) := by omega
      have d1 : (d : Int) ≤ 2000000000 := by omega
      have HL1 := Lib.hid (fun h : d < n => less_any g (n + 1) cap b d c B wr hown (by omega) (by omega) (by omega))
      have HC := Lib.hid hc
      have HD := Lib.hid hd
      clear hc hd hown hq0
      have HN := Lib.hid hcn1
      clear hcn hcn1
      by_cases hdn : d < n
      · have hdn' : (d : Int) < (n : Int) := by omega
        have HL2 := Lib.hid (HL1.out hdn)
        clear HL1
        have HDN := Lib.hid hdn
        cases hA : aheadB (gt b d) (gt b c) with
        | false =>
          rw [hA] at HL2
          have HA := Lib.hid hA
          clear hA
          go_wp2_with fail
          refine HL2.out.mono ?_
          rintro e w1 ⟨rfl, hb⟩
          have hT1 := HT.out.below hb
          have mL1 := method_less q _ (n + 1) cap w1 hT1.cellq
          have hj : c < n := by first | exact HN.out | exact HDN.out
          have hk1 : k < n := by have := HC.out; have := HN.out; omega
          have HL3 := Lib.hid (less_any g (n + 1) cap b c k B w1 hT1.own (by omega) (by omega) (by omega))
          have HT1 := Lib.hid hT1
          have HB : Hid (∀ i, 0 < i → i < n → (i - 1) / 2 = k → le (gt b c) (gt b i)) := Lib.hid (fun i i0 hi hp => by
            have hcd : i = c ∨ i = d := by have := HC.out; have := HD.out; omega
            rcases hcd with rfl | rfl
            · exact le_refl _
            · exact HA.out)
          have HJ : Hid (c < n ∧ k < n ∧ (c - 1) / 2 = k ∧ 0 < c ∧ k < c) := Lib.hid (by have := HC.out; have := HD.out; exact ⟨hj, hk1, by omega, by omega, by omega⟩)
          clear hT1 hb hj hk1
          cases hG : aheadB (gt b c) (gt b k) with
          | false =>
            rw [hG] at HL3
            have HG := Lib.hid hG
            clear hG
            go_wp2_with fail
            refine HL3.out.mono ?_
            rintro e w2 ⟨rfl, hb⟩
            have HB2 := Lib.hid hb
            clear hb
            go_wp2
            all_goals
              go_ret
              exact ⟨⟨_, rfl⟩, b, HT1.out.below HB2.out, HU.out.done fun i i0 hi hp => le_trans HG.out (HB.out i i0 hi hp), HE.out⟩
          | true =>
            rw [hG] at HL3
            have HG := Lib.hid hG
            clear hG
            go_wp2_with fail
            refine HL3.out.mono ?_
            rintro e w2 ⟨rfl, hb⟩
            have hT2 := HT1.out.below hb
            have mS := method_swap q _ (n + 1) cap w2 hT2.cellq
            have HS2 := Lib.hid (swap_any w2 g (n + 1) cap b k c B w2 hT2.toRow (by have := HJ.out; omega) (by have := HJ.out; omega) (by omega))
            have HT2 := Lib.hid hT2
            clear hT2 hb
            go_wp2_with fail
            refine HS2.out.mono ?_
            rintro e w3 ⟨rfl, hr⟩
            have HR := Lib.hid hr
            clear hr
            go_wp2
            go_roundw
            case rel =>
              have hs := HT.out.size
              obtain ⟨j1, j2, j3, j4, j5⟩ := HJ.out
              exact ⟨c, swp b k c, rfl, by omega, HT2.out.row (by omega) (by omega) HR.out, HU.out.step j4 j1 (by omega) j3 HG.out HB.out, by rw [gt_swp _ _ _ _ (by omega) (by omega), if_neg (by omega), if_neg (by omega)]; exact HE.out⟩
            case measure => obtain ⟨j1, j2, j3, j4, j5⟩ := HJ.out; simp [intOf]; omega
        | true =>
          rw [hA] at HL2
          have HA := Lib.hid hA
          clear hA
          go_wp2_with fail
          refine HL2.out.mono ?_
          rintro e w1 ⟨rfl, hb⟩
          have hT1 := HT.out.below hb
          have mL1 := method_less q _ (n + 1) cap w1 hT1.cellq
          have hj : d < n := by first | exact HN.out | exact HDN.out
          have hk1 : k < n := by have := HC.out; have := HN.out; omega
          have HL3 := Lib.hid (less_any g (n + 1) cap b d k B w1 hT1.own (by omega) (by omega) (by omega))
          have HT1 := Lib.hid hT1
          have HB : Hid (∀ i, 0 < i → i < n → (i - 1) / 2 = k → le (gt b d) (gt b i)) := Lib.hid (fun i i0 hi hp => by
            have hcd : i = c ∨ i = d := by have := HC.out; have := HD.out; omega
            rcases hcd with rfl | rfl
            · exact le_of_ahead HA.out
            · exact le_refl _)
          have HJ : Hid (d < n ∧ k < n ∧ (d - 1) / 2 = k ∧ 0 < d ∧ k < d) := Lib.hid (by have := HC.out; have := HD.out; exact ⟨hj, hk1, by omega, by omega, by omega⟩)
          clear hT1 hb hj hk1
          cases hG : aheadB (gt b d) (gt b k) with
          | false =>
            rw [hG] at HL3
            have HG := Lib.hid hG
            clear hG
            go_wp2_with fail
            refine HL3.out.mono ?_
            rintro e w2 ⟨rfl, hb⟩
            have HB2 := Lib.hid hb
            clear hb
            go_wp2
            all_goals
              go_ret
              exact ⟨⟨_, rfl⟩, b, HT1.out.below HB2.out, HU.out.done fun i i0 hi hp => le_trans HG.out (HB.out i i0 hi hp), HE.out⟩
          | true =>
            rw [hG] at HL3
            have HG := Lib.hid hG
            clear hG
            go_wp2_with fail
            refine HL3.out.mono ?_
            rintro e w2 ⟨rfl, hb⟩
            have hT2 := HT1.out.below hb
            have mS := method_swap q _ (n + 1) cap w2 hT2.cellq
            have HS2 := Lib.hid (swap_any w2 g (n + 1) cap b k d B w2 hT2.toRow (by have := HJ.out; omega) (by have := HJ.out; omega) (by omega))
            have HT2 := Lib.hid hT2
            clear hT2 hb
            go_wp2_with fail
            refine HS2.out.mono ?_
            rintro e w3 ⟨rfl, hr⟩
            have HR := Lib.hid hr
            clear hr
            go_wp2
            go_roundw
            case rel =>
              have hs := HT.out.size
              obtain ⟨j1, j2, j3, j4, j5⟩ := HJ.out
              exact ⟨d, swp b k d, rfl, by omega, HT2.out.row (by omega) (by omega) HR.out, HU.out.step j4 j1 (by omega) j3 HG.out HB.out, by rw [gt_swp _ _ _ _ (by omega) (by omega), if_neg (by omega), if_neg (by omega)]; exact HE.out⟩
            case measure => obtain ⟨j1, j2, j3, j4, j5⟩ := HJ.out; simp [intOf]; omega
      · have hdn' : (n : Int) ≤ (d : Int) := by omega
        have HDN := Lib.hid hdn
        clear HL1
        clear mL
        obtain ⟨w1, hb, hw1⟩ : ∃ w1, Below wr.heap.size wr w1 ∧ w1 = wr := ⟨wr, Below.refl _ _, rfl⟩
        subst hw1
        have hT1 := HT.out.below hb
        have mL1 := method_less q _ (n + 1) cap w1 hT1.cellq
        have hj : c < n := by first | exact HN.out | exact HDN.out
        have hk1 : k < n := by have := HC.out; have := HN.out; omega
        have HL3 := Lib.hid (less_any g (n + 1) cap b c k B w1 hT1.own (by omega) (by omega) (by omega))
        have HT1 := Lib.hid hT1
        have HB : Hid (∀ i, 0 < i → i < n → (i - 1) / 2 = k → le (gt b c) (gt b i)) := Lib.hid (fun i i0 hi hp => by
          have hcd : i = c := by have := HC.out; have := HD.out; have := HDN.out; omega
          rw [hcd]; exact le_refl _)
        have HJ : Hid (c < n ∧ k < n ∧ (c - 1) / 2 = k ∧ 0 < c ∧ k < c) := Lib.hid (by have := HC.out; have := HD.out; exact ⟨hj, hk1, by omega, by omega, by omega⟩)
        clear hT1 hb hj hk1
        cases hG : aheadB (gt b c) (gt b k) with
        | false =>
          rw [hG] at HL3
          have HG := Lib.hid hG
          clear hG
          go_wp2_with fail
          refine HL3.out.mono ?_
          rintro e w2 ⟨rfl, hb⟩
          have HB2 := Lib.hid hb
          clear hb
          go_wp2
          all_goals
            go_ret
            exact ⟨⟨_, rfl⟩, b, HT1.out.below HB2.out, HU.out.done fun i i0 hi hp => le_trans HG.out (HB.out i i0 hi hp), HE.out⟩
        | true =>
          rw [hG] at HL3
          have HG := Lib.hid hG
          clear hG
          go_wp2_with fail
          refine HL3.out.mono ?_
          rintro e w2 ⟨rfl, hb⟩
          have hT2 := HT1.out.below hb
          have mS := method_swap q _ (n + 1) cap w2 hT2.cellq
          have HS2 := Lib.hid (swap_any w2 g (n + 1) cap b k c B w2 hT2.toRow (by have := HJ.out; omega) (by have := HJ.out; omega) (by omega))
          have HT2 := Lib.hid hT2
          clear hT2 hb
          go_wp2_with fail
          refine HS2.out.mono ?_
          rintro e w3 ⟨rfl, hr⟩
          have HR := Lib.hid hr
          clear hr
          go_wp2
          go_roundw
          case rel =>
            have hs := HT.out.size
            obtain ⟨j1, j2, j3, j4, j5⟩ := HJ.out
            exact ⟨c, swp b k c, rfl, by omega, HT2.out.row (by omega) (by omega) HR.out, HU.out.step j4 j1 (by omega) j3 HG.out HB.out, by rw [gt_swp _ _ _ _ (by omega) (by omega), if_neg (by omega), if_neg (by omega)]; exact HE.out⟩
          case measure => obtain ⟨j1, j2, j3, j4, j5⟩ := HJ.out; simp [intOf]; omega

end Go.Proofs.Ytmnbamfemcgloaa.Qu
