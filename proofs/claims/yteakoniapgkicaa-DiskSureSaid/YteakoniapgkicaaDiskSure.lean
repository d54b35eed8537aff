/- 'What follows': what was sure is there behind any crash, also where it was written over and not made sure: of what was loose there is a beginning, sector by sector; for every two slices of bytes and every slice of keeps. No conditions. -/
import Derived.Test.YteakoniapgkicaaDkV
import Derived.Test.YteakoniapgkicaaKitC
namespace Go.Proofs.Yteakoniapgkicaa.diskSure
open Go.ChangeShapes Go.WideShapes Go.ChangeAt Go.RowKit
set_option linter.unusedVariables false

theorem own : ownKnob Try.prog.godebug = none := by kernel_rfl

open By (Bys)
open Dd (Pl At Went NewE ForkE)
open Dk

set_option maxRecDepth 100000 in
set_option maxHeartbeats 4000000 in
theorem walk (w : World) (A : Option Addr) (n c : Nat) (l : List UInt8) (hA : Bys w w.heap.size A n l) (hn : n ≤ 9223372036854775807) (hz : A = none → n = 0 ∧ c = 0) (hc : n ≤ c)
    (A' : Option Addr) (n' c' : Nat) (l' : List UInt8) (hA' : Bys w w.heap.size A' n' l') (hn' : n' ≤ 9223372036854775807) (hz' : A' = none → n' = 0 ∧ c' = 0) (hc' : n' ≤ c')
    (K : Option Addr) (kn kc : Nat) (kf : Nat → Int) (hK : Hl.Ints w w.heap.size K kn kf) (hkn : kn ≤ 9223372036854775807) (hkf : ∀ k, k < kn → -9223372036854775808 ≤ kf k ∧ kf k ≤ 9223372036854775807) :
    Calls Try.prog 5 #[.slice A n c, .slice A' n' c', .slice K kn kc] w fun e w' => e = .returned (.bool true) ∧ Below w.heap.size w w' := by
  have HA := Lib.hid hA
  have HA' := Lib.hid hA'
  have HK := Lib.hid hK
  have HKF := Lib.hid hkf
  obtain ⟨fa, hfa⟩ : ∃ fa : Nat → UInt8, fa = fun i => l.getD i 0 := ⟨_, rfl⟩
  obtain ⟨fb, hfb⟩ : ∃ fb : Nat → UInt8, fb = fun i => l'.getD i 0 := ⟨_, rfl⟩
  have HFA := Lib.hid (show ∀ i, fa i = l.getD i 0 from fun i => by rw [hfa])
  have HFB := Lib.hid (show ∀ i, fb i = l'.getD i 0 from fun i => by rw [hfb])
  clear hA hA' hK hkf hz hc hz' hc' hfa hfb
  by_cases hbig : n ≤ 20 ∧ n' ≤ 20 ∧ kn ≤ 40
  · have h1 : decide (20 < n) = false := by simp; omega
    have h2 : decide (20 < n') = false := by simp; omega
    have h3 : decide (40 < kn) = false := by simp; omega
    have b1 : (n : Int) ≤ 20 := by omega
    have b2 : (n' : Int) ≤ 20 := by omega
    have b3 : (kn : Int) ≤ 40 := by omega
    go_enter Try.func5, Try.ntmps5
    go_wp2_with fail
    clear h1 h2 h3
    refine (Dd.new_ok w 24 (by omega) (by omega)).mono ?_
    rintro e w1 ⟨q, rfl, hq, hlo, hb⟩
    have HQ1 := Lib.hid (show Solo w w1 q.x q w.heap.size (dsNew 24) from ⟨hq, hlo, hb, rfl⟩)
    clear hq hlo hb
    go_wp2_with fail
    refine (awake_any w1).mono ?_
    rintro e w2 ⟨rfl, k2⟩
    have HQ2 := Lib.hid (HQ1.out.later k2)
    clear k2
    go_wp2_with fail
    go_loopw [9] (fun s9 wr => ∃ i : Nat, s9 = .int .i64 (i : Int) ∧ i ≤ n ∧ AtS w wr q.x w.heap.size (writes (dsNew 24) fa i)) (fun s _ => n - (intOf s).toNat)
    case atStart => exact ⟨0, rfl, by omega, ⟨_, HQ2.out⟩⟩
    case round =>
      clear HQ1 HQ2
      obtain ⟨i, rfl, hi, ⟨qa, hS⟩⟩ := hrel
      have i0 : (0 : Int) ≤ (i : Int) := by omega
      have HS := Lib.hid hS
      have HT := Lib.hid (writes_told (dsNew_ok 24) rfl rfl fa i (by rw [dsNew_n]; omega))
      have hN : (writes (dsNew 24) fa i).n = 24 := by rw [HT.out.n, dsNew_n]
      have HN := Lib.hid hN
      clear hS hN
      by_cases hlt : i < n
      · have i1 : (i : Int) < (n : Int) := by omega
        have i2 : decide (i < n) = true := by simp; omega
        obtain ⟨g, o, rfl, hg, hcell⟩ := byte_in HA.out hlt
        have hc0 := (HS.out.old (j := o + i) hg).trans hcell
        rw [← HFA.out] at hc0
        clear hcell
        go_wp2_with fail
        refine (full_any (fa i) wr).mono ?_
        rintro e w4 ⟨rfl, k4⟩
        have HS4 := Lib.hid (HS.out.later k4)
        clear k4 hc0
        go_wp2_with fail
        refine (solo_write HS4.out (i : Int) (allOf (fa i)) (by rw [HN.out]; omega) (by rw [HN.out]; omega) (allOf_len _) (by rw [HT.out.armed]; omega)).mono ?_
        rintro e w5 ⟨rfl, q5, hq5⟩
        have HS5 := Lib.hid (show Solo w w5 q.x q5 w.heap.size (writes (dsNew 24) fa (i + 1)) from hq5)
        clear hq5
        go_wp2_with fail
        go_roundw
        case rel => exact ⟨i + 1, by go_num, by omega, ⟨_, HS5.out⟩⟩
        case measure => simp [intOf]; omega
      · obtain rfl : i = n := by omega
        have i1 : ¬ (i : Int) < (i : Int) := by omega
        have i2 : decide (i < i) = false := by simp
        go_wp2_with fail
        refine (solo_sync HS.out (by rw [HN.out]; omega) (by rw [HN.out]; omega) (by rw [HT.out.armed]; omega)).mono ?_
        rintro e w5 ⟨rfl, q5, hq5⟩
        have HS5 := Lib.hid (show Solo w w5 q.x q5 w.heap.size (firstD fa i) from hq5)
        have HF := Lib.hid (first_told fa i (by omega))
        clear hq5 HS HT HN
        go_wp2_with fail
        obtain ⟨wo, rfl⟩ : ∃ wo : World, wo = wr := ⟨_, rfl⟩
        go_loopw [10] (fun s10 wr => ∃ j : Nat, s10 = .int .i64 (j : Int) ∧ j ≤ n' ∧ AtS w wr q.x w.heap.size (writes (firstD fa i) fb j)) (fun s _ => n' - (intOf s).toNat)
        case atStart => exact ⟨0, rfl, by omega, ⟨_, HS5.out⟩⟩
        case round =>
          clear HS5
          obtain ⟨j, rfl, hj, ⟨qb, hS⟩⟩ := hrel
          have j0 : (0 : Int) ≤ (j : Int) := by omega
          have HS := Lib.hid hS
          have HT := Lib.hid (writes_told HF.out.2.2.2.2.2.2 HF.out.1 HF.out.2.1 fb j (by rw [HF.out.2.2.1]; omega))
          have HN := Lib.hid (show (writes (firstD fa i) fb j).n = 24 by rw [HT.out.n, HF.out.2.2.1])
          clear hS
          by_cases hlt : j < n'
          · have j1 : (j : Int) < (n' : Int) := by omega
            have j2 : decide (j < n') = true := by simp; omega
            obtain ⟨g, o, rfl, hg, hcell⟩ := byte_in HA'.out hlt
            have hc0 := (HS.out.old (j := o + j) hg).trans hcell
            rw [← HFB.out] at hc0
            clear hcell
            go_wp2_with fail
            refine (full_any (fb j) wr).mono ?_
            rintro e w4 ⟨rfl, k4⟩
            have HS4 := Lib.hid (HS.out.later k4)
            clear k4 hc0
            go_wp2_with fail
            refine (solo_write HS4.out (j : Int) (allOf (fb j)) (by rw [HN.out]; omega) (by rw [HN.out]; omega) (allOf_len _) (by rw [HT.out.armed]; omega)).mono ?_
            rintro e w5 ⟨rfl, q5, hq5⟩
            have HS5 := Lib.hid (show Solo w w5 q.x q5 w.heap.size (writes (firstD fa i) fb (j + 1)) from hq5)
            clear hq5
            go_wp2_with fail
            go_roundw
            case rel => exact ⟨j + 1, by go_num, by omega, ⟨_, HS5.out⟩⟩
            case measure => simp [intOf]; omega
          · obtain rfl : j = n' := by omega
            have j1 : ¬ (j : Int) < (j : Int) := by omega
            have j2 : decide (j < j) = false := by simp
            go_wp2_with fail
            refine (solo_crash HS.out HK.out (by omega) HKF.out (by rw [HN.out]; omega) (by rw [HN.out]; omega)).mono ?_
            rintro e w5 ⟨rfl, q5, hq5⟩
            have HS5 := Lib.hid hq5
            have HN5 := Lib.hid (show (crashD (writes (firstD fa i) fb j) kn kf).n = 24 from (crashN_n kn kf _).trans HN.out)
            clear hq5 HS HT
            go_wp2_with fail
            refine (solo_start HS5.out (by rw [HN5.out]; omega) (by rw [HN5.out]; omega)).mono ?_
            rintro e w6 ⟨rfl, q6, hq6⟩
            have HS6 := Lib.hid (show Solo w w6 q.x q6 w.heap.size (sureD fa fb i j kn kf) from hq6)
            clear hq6 HS5 HN5 HN
            go_wp2_with fail
            obtain ⟨wo, rfl⟩ : ∃ wo : World, wo = wr := ⟨_, rfl⟩
            go_loopw [11] (fun s11 wr => ∃ r : Nat, s11 = .int .i64 (r : Int) ∧ r ≤ 20 ∧ AtS w wr q.x w.heap.size (sureD fa fb i j kn kf)) (fun s _ => 20 - (intOf s).toNat)
            case atStart => exact ⟨0, rfl, by omega, ⟨_, HS6.out⟩⟩
            case round =>
              clear HS6
              obtain ⟨r, rfl, hr, ⟨qc, hS⟩⟩ := hrel
              have r0 : (0 : Int) ≤ (r : Int) := by omega
              have HS := Lib.hid hS
              clear hS
              by_cases hlt : r < 20
              · have r1 : (r : Int) < 20 := by omega
                have HT := Lib.hid (sure_told fa fb i j kn kf (by omega) (by omega) r hlt)
                have HOL := Lib.hid (oldB_len fa i r)
                have HNL := Lib.hid Se.noughts_len
                go_upto_region 21 with (first
                  | (refine new_sec (op := ⟨some 12, _, _, _, _, _⟩) rfl rfl ?_; intro w2 hS2 hB2 hZ2)
                  | (refine new_sec (op := ⟨some 13, _, _, _, _, _⟩) rfl rfl ?_; intro w3 hS3 hB3 hZ3))
                have HX := Lib.hid (show Sec w3 wr.heap.size Se.noughts ∧ Sec w3 w2.heap.size Se.noughts ∧ Solo w w3 q.x qc w.heap.size (sureD fa fb i j kn kf) ∧ wr.heap.size < w2.heap.size ∧ w2.heap.size < w3.heap.size from ⟨hS2.below hB3, hS3, HS.out.later (below_then hB2 hB3), by omega, by omega⟩)
                have HG0 := Lib.hid (show (∀ k, qc.has k → k < wr.heap.size) ∧ w.heap.size ≤ wr.heap.size from ⟨fun k hk => HS.out.one.there k hk, HS.out.below.size⟩)
                obtain ⟨g2, hg2⟩ : ∃ g2, wr.heap.size = g2 := ⟨_, rfl⟩
                obtain ⟨g3, hg3⟩ : ∃ g3, w2.heap.size = g3 := ⟨_, rfl⟩
                rw [hg2, hg3] at HX
                rw [hg2] at HG0
                rw [hg2, hg3]
                have HG := Lib.hid (show ¬ qc.has g2 ∧ ¬ qc.has g3 ∧ w.heap.size ≤ g2 ∧ w.heap.size ≤ g3 ∧ g2 ≠ g3 from ⟨fun hh => Nat.lt_irrefl _ (HG0.out.1 _ hh), fun hh => by have := HG0.out.1 _ hh; have := HX.out.2.2.2.1; omega, HG0.out.2, by have := HG0.out.2; have := HX.out.2.2.2.1; omega, by have := HX.out.2.2.2.1; omega⟩)
                obtain ⟨O, hO⟩ : ∃ O, oldB fa i r = O := ⟨_, rfl⟩
                have HO := Lib.hid hO
                have HOL := Lib.hid (show O.length = 64 by rw [← hO]; exact oldB_len fa i r)
                clear hS2 hB2 hZ2 hS3 hB3 hZ3 hg2 hg3 HG0 hO
                by_cases hna : r < i
                case' pos =>
                  have a1 : (r : Int) < (i : Int) := by omega
                  have a2 : decide (r < i) = true := by simp; omega
                  obtain ⟨g, o, rfl, hg, hcell⟩ := byte_in HA.out hna
                  have hc0 := (HX.out.2.2.1.old (j := o + r) hg).trans hcell
                  rw [← HFA.out] at hc0
                  have HOE := Lib.hid (show O = allOf (fa r) by rw [← HO.out]; unfold oldB; rw [if_pos hna])
                  clear hcell hna
                  go_wp2_with fail
                  refine (full_any (fa r) w3).mono ?_
                  rintro e w4 ⟨rfl, k4⟩
                  rw [← HOE.out]
                  have hT4 := HX.out.1.below k4
                  have HU4 := Lib.hid (HX.out.2.1.below k4)
                  have HS4 := Lib.hid (HX.out.2.2.1.later k4)
                  clear k4 hc0
                  go_upto_region 23 with (first
                    | (refine store_sec (w := w4) rfl _ _ rfl _ rfl _ rfl _ hT4 HOL.out ?_; intro w5 hT5 hG5))
                  have hU5 := sec_far HU4.out hG5 (Ne.symm HG.out.2.2.2.2)
                  have HS5 := Lib.hid (solo_grown HS4.out hG5 HG.out.2.2.1 HG.out.1)
                  clear hT4 hG5
                  go_upto_region 24 with (first
                    | ((with_reducible refine load_sec (op := ⟨some 95, _, _, _, _, _⟩) ?_ (.tmp 12) ?_ _ ?_ _ hT5 ?_); (next => rfl); (next => rfl); (next => rfl))
                    | (refine store_sec (w := w5) rfl _ _ rfl _ rfl _ rfl _ hU5 HOL.out ?_; intro w6 hU6 hG6))
                  have HY := Lib.hid (show Sec w6 g2 O ∧ Sec w6 g3 O ∧ Solo w w6 q.x qc w.heap.size (sureD fa fb i j kn kf) from ⟨sec_far hT5 hG6 HG.out.2.2.2.2, hU6, solo_grown HS5.out hG6 HG.out.2.2.2.1 HG.out.2.1⟩)
                  clear hT5 hU5 hU6 hG6
                case' neg =>
                  have a1 : ¬ (r : Int) < (i : Int) := by omega
                  have a2 : decide (r < i) = false := by simp; omega
                  have hOE : O = Se.noughts := by rw [← HO.out]; unfold oldB; rw [if_neg hna]
                  have hT5 : Sec w3 g2 O := by rw [hOE]; exact HX.out.1
                  have hU5 : Sec w3 g3 O := by rw [hOE]; exact HX.out.2.1
                  clear hOE hna
                  go_upto_region 24 with (first
                    | ((with_reducible refine load_sec (op := ⟨some 95, _, _, _, _, _⟩) ?_ (.tmp 12) ?_ _ ?_ _ hT5 ?_); (next => rfl); (next => rfl); (next => rfl))
                    | (refine store_sec (w := w3) rfl _ _ rfl _ rfl _ rfl _ hU5 HOL.out ?_; intro w6 hU6 hG6))
                  have HY := Lib.hid (show Sec w6 g2 O ∧ Sec w6 g3 O ∧ Solo w w6 q.x qc w.heap.size (sureD fa fb i j kn kf) from ⟨sec_far hT5 hG6 HG.out.2.2.2.2, hU6, solo_grown HX.out.2.2.1 hG6 HG.out.2.2.2.1 HG.out.2.1⟩)
                  clear hT5 hU5 hU6 hG6
                all_goals
                  clear a1 a2
                  by_cases hnb : r < j
                  case' neg =>
                    have a1 : ¬ (r : Int) < (j : Int) := by omega
                    have a2 : decide (r < j) = false := by simp; omega
                    obtain ⟨N, hN⟩ : ∃ N : List UInt8, N = O := ⟨_, rfl⟩
                    obtain ⟨m, hm⟩ : ∃ m : Nat, m = 0 := ⟨_, rfl⟩
                    have hm0 : m ≤ 64 := by omega
                    have hm1 : m ≤ 0 := by omega
                    obtain ⟨T, hTe⟩ : ∃ T, toldB fa fb i j kn kf r = T := ⟨_, rfl⟩
                    have HTE := Lib.hid hTe
                    have HB3 := Lib.hid (show Byte3 O N T m by rw [hN, hm, ← hTe]; unfold toldB; rw [if_neg hnb, HO.out]; exact byte3_same O HOL.out)
                    obtain ⟨w9, hw9⟩ : ∃ w9 : World, w9 = w6 := ⟨_, rfl⟩
                    have HZ := Lib.hid (show Sec w9 g2 O ∧ Sec w9 g3 N ∧ Solo w w9 q.x qc w.heap.size (sureD fa fb i j kn kf) by rw [hw9, hN]; exact HY.out)
                    clear hN hm hTe hnb
                    go_upto_region 29 with (fail)
                    rw [← hw9]
                    clear hw9
                  case' pos =>
                    have a1 : (r : Int) < (j : Int) := by omega
                    have a2 : decide (r < j) = true := by simp; omega
                    obtain ⟨gb, ob, rfl, hgb, hcellb⟩ := byte_in HA'.out hnb
                    have hc1 := (HY.out.2.2.old (j := ob + r) hgb).trans hcellb
                    rw [← HFB.out] at hc1
                    clear hcellb
                    go_wp2_with fail
                    refine (full_any (fb r) w6).mono ?_
                    rintro e w7 ⟨rfl, k7⟩
                    have HU7 := Lib.hid (HY.out.1.below k7)
                    have hV7 := HY.out.2.1.below k7
                    have HS7 := Lib.hid (HY.out.2.2.later k7)
                    clear k7 hc1
                    obtain ⟨N, hN⟩ : ∃ N : List UInt8, allOf (fb r) = N := ⟨_, rfl⟩
                    have hNL : N.length = 64 := by rw [← hN]; exact allOf_len _
                    rw [hN]
                    go_upto_region 27 with (first
                      | (refine store_sec (w := w7) rfl _ _ rfl _ rfl _ rfl _ hV7 hNL ?_; intro w9 hV9 hG9))
                    have HZ := Lib.hid (show Sec w9 g2 O ∧ Sec w9 g3 N ∧ Solo w w9 q.x qc w.heap.size (sureD fa fb i j kn kf) from ⟨sec_far HU7.out hG9 HG.out.2.2.2.2, hV9, solo_grown HS7.out hG9 HG.out.2.2.2.1 HG.out.2.1⟩)
                    obtain ⟨m, hm⟩ : ∃ m, keeps kn kf r = m := ⟨_, rfl⟩
                    have hm0 : m ≤ 64 := by rw [← hm]; exact keeps_le _ _ _
                    obtain ⟨T, hTe⟩ : ∃ T, toldB fa fb i j kn kf r = T := ⟨_, rfl⟩
                    have HTE := Lib.hid hTe
                    have HB3 := Lib.hid (show Byte3 O N T m by rw [← hTe]; unfold toldB; rw [if_pos hnb, HO.out, hN, hm]; exact byte3_mix O N m HOL.out hNL hm0)
                    have HM := Lib.hid hm
                    clear hV7 hV9 hG9 hTe hN hNL hm hnb
                    by_cases hk0 : kn = 0
                    case' pos =>
                      have hm1 : m ≤ 0 := by rw [← HM.out]; unfold keeps; rw [if_pos hk0]; exact Nat.le_refl _
                      have q1 : decide (0 < kn) = false := by simp; omega
                      clear hk0
                      go_upto_region 29 with (fail)
                    case' neg =>
                      have hkp : 0 < kn := by omega
                      have q1 : decide (0 < kn) = true := by simp; omega
                      have q2 : (0 : Int) < (kn : Int) := by omega
                      obtain ⟨t, ht⟩ : ∃ t, r % kn = t := ⟨_, rfl⟩
                      have htk : t < kn := by rw [← ht]; exact Nat.mod_lt _ hkp
                      have hmod : (r : Int) % (kn : Int) = (t : Int) := by rw [← ht]; rfl
                      have t0 : (0 : Int) ≤ (t : Int) := by omega
                      have t1 : (t : Int) < (kn : Int) := by omega
                      obtain ⟨gk, ok, rfl, hgk, hcellk⟩ := HK.out t htk
                      obtain ⟨v1, v2⟩ := HKF.out t htk
                      have hmv : m = min (kf t).toNat 64 := by rw [← HM.out]; unfold keeps; rw [if_neg hk0, ht]
                      have hcell2 := (HZ.out.2.2.old (j := ok + t) hgk).trans hcellk
                      clear hcellk
                      obtain ⟨v, hv⟩ : ∃ v, kf t = v := ⟨_, rfl⟩
                      rw [hv] at hmv hcell2 v1 v2
                      obtain ⟨x, hx⟩ : ∃ x : Nat, v.toNat = x := ⟨_, rfl⟩
                      have hm1 : (if v < 0 then 0 else v) = (x : Int) := by split <;> omega
                      have hm2 : (if 0 < v then v else 0) = (x : Int) := by split <;> omega
                      have hx1 : (if (x : Int) < 64 then (x : Int) else 64) = (m : Int) := by rw [hmv, hx]; split <;> omega
                      have hx2 : (if 64 < (x : Int) then 64 else (x : Int)) = (m : Int) := by rw [hmv, hx]; split <;> omega
                      clear hmv hk0 ht hv hx
                      go_upto_region 29 with (fail)
                      clear hm1 hm2 hx1 hx2 hmod v1 v2 hcell2
                  all_goals
                    have HT2 := Lib.hid (And.intro HT.out.1 (And.intro HT.out.2.1 (HT.out.2.2.trans HTE.out)))
                    have HTL := Lib.hid HB3.out.2.2.1
                    go_wp2_with fail
                    refine (solo_read HZ.out.2.2 (r : Int) (by rw [HT2.out.1]; omega) (by rw [HT2.out.1]; omega)).mono ?_
                    rintro e w10 ⟨rfl, k10⟩
                    rw [HT2.out.2.1, HT2.out.2.2]
                    have HP10 := Lib.hid (And.intro (HZ.out.1.below k10) (And.intro (HZ.out.2.1.below k10) (HZ.out.2.2.later k10)))
                    clear k10
                    go_upto_region 30 with (first
                      | (refine new_sec (op := ⟨some 15, _, _, _, _, _⟩) rfl rfl ?_; intro w11 hS11 hB11 hZ11)
                      | (refine store_sec (w := w11) rfl _ _ rfl _ rfl _ rfl _ hS11 HTL.out ?_; intro w12 hS12 hG12))
                    have HP12 := Lib.hid (show Sec w12 g2 O ∧ Sec w12 g3 N ∧ Sec w12 w10.heap.size T ∧ Solo w w12 q.x qc w.heap.size (sureD fa fb i j kn kf) from
                      ⟨sec_far (HP10.out.1.below hB11) hG12 (by have := HP10.out.1.2.lt; omega), sec_far (HP10.out.2.1.below hB11) hG12 (by have := HP10.out.2.1.2.lt; omega), hS12, solo_grown (HP10.out.2.2.later hB11) hG12 HP10.out.2.2.below.size (fun hh => Nat.lt_irrefl _ (HP10.out.2.2.one.there _ hh))⟩)
                    clear hS11 hB11 hZ11 hS12 hG12
                    go_wp2_with fail
                    go_loop [17] (fun s17 => ∃ y : Nat, s17 = .int .i64 (y : Int) ∧ y ≤ 64) (fun s => 64 - (intOf s).toNat)
                    case atStart => exact ⟨0, rfl, by omega⟩
                    case round =>
                      obtain ⟨y, rfl, hy⟩ := hrel
                      have y0 : (0 : Int) ≤ (y : Int) := by omega
                      by_cases hy64 : y < 64
                      · have y1 : (y : Int) < 64 := by omega
                        obtain ⟨bo, ho⟩ : ∃ bo, O[y]? = some bo := ⟨_, List.getElem?_eq_getElem (by have := HB3.out.1; omega)⟩
                        obtain ⟨bn, hn1⟩ : ∃ bn, N[y]? = some bn := ⟨_, List.getElem?_eq_getElem (by have := HB3.out.2.1; omega)⟩
                        have hT := HB3.out.2.2.2 y hy64
                        have p1 := sec_byte HP12.out.1 ho
                        have p2 := sec_byte HP12.out.2.1 hn1
                        by_cases hym : y < m
                        · first
                            | (exfalso; omega)
                            | (rw [if_pos hym, hn1] at hT
                               have p3 := sec_byte HP12.out.2.2.1 hT
                               have y2 : decide (y < m) = true := by simp; omega
                               have y3 : (y : Int) < (m : Int) := by omega
                               clear ho hn1 hT
                               go_wp2_with fail
                               go_round
                               case rel => exact ⟨y + 1, by go_num, by omega⟩
                               case measure => simp [intOf]; omega)
                        · rw [if_neg hym, ho] at hT
                          have p3 := sec_byte HP12.out.2.2.1 hT
                          have y2 : decide (y < m) = false := by simp; omega
                          have y3 : ¬ (y : Int) < (m : Int) := by omega
                          have y4 : ¬ (y : Int) < 0 := by omega
                          clear ho hn1 hT
                          go_wp2_with fail
                          go_round
                          case rel => exact ⟨y + 1, by go_num, by omega⟩
                          case measure => simp [intOf]; omega
                      · have y1 : ¬ (y : Int) < 64 := by omega
                        go_wp2_with fail
                        go_roundw
                        case rel => exact ⟨r + 1, by go_num, by omega, ⟨_, HP12.out.2.2.2⟩⟩
                        case measure => simp [intOf]; omega
              · have r1 : ¬ (r : Int) < 20 := by omega
                go_wp2_with fail
                go_ret
                exact ⟨rfl, HS.out.below⟩
  · by_cases h1 : 20 < n
    case' pos =>
      have d1 : decide (20 < n) = true := by simp; omega
      have d2 : (20 : Int) < (n : Int) := by omega
    case' neg =>
      have d1 : decide (20 < n) = false := by simp; omega
      have d2 : ¬ (20 : Int) < (n : Int) := by omega
      by_cases h2 : 20 < n'
      case' pos =>
        have d3 : decide (20 < n') = true := by simp; omega
        have d4 : (20 : Int) < (n' : Int) := by omega
      case' neg =>
        have d3 : decide (20 < n') = false := by simp; omega
        have d4 : ¬ (20 : Int) < (n' : Int) := by omega
        have d5 : decide (40 < kn) = true := by simp; omega
        have d6 : (40 : Int) < (kn : Int) := by omega
    all_goals
      go_enter Try.func5, Try.ntmps5
      go_wp2_with fail
      refine (awake_any w).mono ?_
      rintro e w1 ⟨rfl, k1⟩
      have HB := Lib.hid k1
      clear k1
      go_wp2_with fail
      go_ret
      exact ⟨rfl, HB.out⟩

set_option maxRecDepth 100000 in
theorem lifted (os : Os) (started : os.Started) (H : Type) (enc : TypeId × Value → H) :
    ReturnsInHanded {} Try.checked os 5 .any (Rows.diskSureSpec.pre6 enc Try.prog Try.f5 Rows.diskSureRow.domain false) (Rows.diskSureSpec.post enc Try.prog Try.f5 false true false false) := by
  refine returnsInHanded_of_change (C := Try.checked) own started (by kernel_rfl) Try.func5
    (ChangeSpec.witness6 (enc := enc) (C := Try.checked) false ⟨#[], #[.slice none 0 0, .slice none 0 0, .slice none 0 0], []⟩ 8 (by kernel_rfl) (by kernel_rfl) (by kernel_rfl) (by kernel_rfl)) ?_
  intro W base args ds gs before hval0 hW hcnd _
  have hval : ∀ (j : Nat) t v, Try.f5.params[j]? = some t → args[j]? = some v → Value.okWide Try.prog W .any base t v := hval0
  have hW' := hW
  obtain ⟨p, q, hA0, hV, rfl, hfz, hnd⟩ := hW
  have hA : DataW.TrodAll enc Try.prog W 0 (fun _ => true) true Try.f5.params.toList args.toList ds p := hA0
  rw [Try.params5] at hA hval
  obtain ⟨v0, vs0, d0, ds0, p0, q0, hargs, rfl, rfl, h0, r0⟩ := trodAll_cons hA
  obtain ⟨v1, vs1, d1, ds1, p1, q1, rfl, rfl, rfl, h1, r1⟩ := trodAll_cons r0
  obtain ⟨v2, vs2, d2, ds2, p2, q2, rfl, rfl, rfl, h2, r2⟩ := trodAll_cons r1
  obtain ⟨rfl, rfl, rfl⟩ := trodAll_nil r2
  obtain rfl : args = #[v0, v1, v2] := by cases args; simp_all
  obtain ⟨A0, n0, c0, l0, rfl, x0, y0, z0, u0⟩ := Hk.open_bytes Try.underlying40 Try.underlying5 (by kernel_rfl) (hval 0 40 v0 rfl rfl) h0
  obtain ⟨A1, n1, c1, l1, rfl, x1, y1, z1, u1⟩ := Hk.open_bytes Try.underlying40 Try.underlying5 (by kernel_rfl) (hval 1 40 v1 rfl rfl) h1
  obtain ⟨A2, n2, c2, f2, rfl, x2, y2, z2, u2⟩ := Hk.open_ints_at Try.underlying33 Try.underlying3 (by kernel_rfl) (hval 2 33 v2 rfl rfl) h2
  refine (walk W A0 n0 c0 l0 x0 y0 z0 u0 A1 n1 c1 l1 x1 y1 z1 u1 A2 n2 c2 f2 x2 y2 z2).mono fun e W' ⟨he, hb⟩ => ?_
  subst he
  exact ⟨_, rfl, Hk.closeLaw (tb := 4) (by kernel_rfl) (by kernel_rfl) rfl rfl rfl Try.underlying4 hW' hb⟩

theorem over : Rows.diskSureRow.holds Try.pinned (OpenSpec.ofChange Rows.diskSureSpec) :=
  OpenClaim.holds_of_wide 5 Try.f5 rfl rfl rfl rfl rfl rfl rfl ⟨rfl, rfl, rfl, rfl, rfl⟩ rfl rfl rfl rfl rfl (by kernel_rfl) Try.func5 (by kernel_rfl)
    (of_decide_eq_true (by kernel_rfl)) (by unfold Func.isWrapper; first | (rw [if_pos (by decide +kernel)]; kernel_rfl) | (rw [if_neg (by decide +kernel)]; exact ⟨rfl, rfl⟩))
    (fun os started H enc _ => lifted os started H enc)

/-- The statement. -/
theorem proved : Rows.DiskSureSaid :=
  over
end Go.Proofs.Yteakoniapgkicaa.diskSure
