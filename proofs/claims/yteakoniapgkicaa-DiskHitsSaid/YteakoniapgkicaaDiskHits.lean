/- P6.2: just the n-th call that would be done is hit: a Write that is hit is done, a Sync is not, and all behind it is down; for every number and every slice of flags. No conditions. -/
import Derived.Test.YteakoniapgkicaaDkQ
import Derived.Test.YteakoniapgkicaaKitC
namespace Go.Proofs.Yteakoniapgkicaa.diskHits
open Go.ChangeShapes Go.WideShapes Go.ChangeAt Go.RowKit
set_option linter.unusedVariables false

theorem own : ownKnob Try.prog.godebug = none := by kernel_rfl

open By (Bys)
open Dd (Pl At Went NewE ForkE)
open Dk

theorem byte_of (i : Nat) (hi : i ≤ 15) : (((UInt8.ofNat (i + 1)).toNat : Nat) : Int) = (i : Int) + 1 := by
  rw [By.toNat_small (by omega)]
  omega

set_option maxRecDepth 100000 in
set_option maxHeartbeats 2000000 in
theorem walk (w : World) (a0 : Int) (wf0 : (Lit.int .i64 a0).wf = true) (A : Option Addr) (n c : Nat) (f : Nat → Bool) (hF : Flags w A n f) (hn : n ≤ 9223372036854775807) :
    Calls Try.prog 6 #[.int .i64 a0, .slice A n c] w fun e w' => e = .returned (.bool true) ∧ Below w.heap.size w w' := by
  obtain ⟨t, ht, ht3, htm, htu⟩ := By.umod_in a0 12 (by omega) (by omega)
  have htt := u64_tmod htm
  obtain ⟨m, hm⟩ : ∃ m : Nat, t + 1 = m := ⟨_, rfl⟩
  have hm1 : (1 : Int) + (t : Int) = (m : Int) := by omega
  have hm2 : 1 ≤ m := by omega
  have hm3 : m ≤ 12 := by omega
  have HF := Lib.hid hF
  clear hF hm htm
  go_enter Try.func6, Try.ntmps6
  go_wp2_with fail
  clear ht htt htu hm1 ht3
  refine (Dd.new_ok w 20 (by omega) (by omega)).mono ?_
  rintro e w1 ⟨q, rfl, hq, hlo, hb⟩
  have HQ1 := Lib.hid (show Solo w w1 q.x q w.heap.size (dsNew 20) from ⟨hq, hlo, hb, rfl⟩)
  clear hq hlo hb
  go_wp2_with fail
  refine (awake_any w1).mono ?_
  rintro e w2 ⟨rfl, k2⟩
  have HQ2 := Lib.hid (HQ1.out.later k2)
  clear k2
  by_cases h15 : n ≤ 15
  · have h1 : decide (15 < n) = false := by simp; omega
    have h2 : ¬ (15 : Int) < (n : Int) := by omega
    go_wp2_with fail
    refine (solo_arm HQ2.out (m : Int) (by rw [dsNew_n]; omega) (by rw [dsNew_n]; omega) (by omega)).mono ?_
    rintro e w3 ⟨rfl, q3, hq3⟩
    have HQ3 := Lib.hid (show Solo w w3 q.x q3 w.heap.size (hitN m 0) from hq3)
    clear hq3
    go_wp2_with fail
    go_loopw [7] (fun s7 wr => ∃ i : Nat, s7 = .int .i64 (i : Int) ∧ i ≤ n ∧ AtS w wr q.x w.heap.size (hitN m i)) (fun s _ => n - (intOf s).toNat)
    case atStart => exact ⟨0, rfl, by omega, ⟨_, HQ3.out⟩⟩
    case round =>
      clear HQ1 HQ2 HQ3 h1 h2
      obtain ⟨i, rfl, hi, ⟨qa, hS⟩⟩ := hrel
      have i0 : (0 : Int) ≤ (i : Int) := by omega
      have HS := Lib.hid hS
      clear hS
      have hN0 : 0 < (hitN m i).n := by rw [hitN_n]; omega
      have hN1 : (hitN m i).n ≤ 20000 := by rw [hitN_n]; omega
      have hN2 : 0 < (hitN m (i + 1)).n := by rw [hitN_n]; omega
      have hN3 : (hitN m (i + 1)).n ≤ 20000 := by rw [hitN_n]; omega
      by_cases hlt : i < n
      · have i1 : (i : Int) < (n : Int) := by omega
        have i2 : (i : Int) ≤ 15 := by omega
        have hA1 := hitN_armed m hm2 i (by omega)
        have hA2 := hitN_armed m hm2 (i + 1) (by omega)
        have HT := Lib.hid (hit_told m hm2 i (by omega))
        have HL := Lib.hid (readV_len HS.out.one.ok 20)
        obtain ⟨b, off, rfl, hb, hcell⟩ := HF.out i hlt
        go_wp2_with fail
        refine (solo_read HS.out 20 hN0 hN1).mono ?_
        rintro e w4 ⟨rfl, k4⟩
        go_upto_region 10 with (first
          | (refine new_sec (op := ⟨some 8, _, _, _, _, _⟩) rfl rfl ?_; intro w5 hS5 hB5 hZ5)
          | (refine store_sec (w := w5) rfl _ _ rfl _ rfl _ rfl _ hS5 HL.out ?_; intro w6 hS6 hG6))
        have HS6 := Lib.hid (HS.out.later ((below_then k4 hB5).grown hG6 (below_then k4 hB5).size (fun k hk => by injection hk with hk; have := k4.size; omega)))
        clear k4 hB5 hZ5 hS5 hS6 hG6
        have e1 : ((1 : UInt8).toNat : Int) = 1 := rfl
        go_wp2_with fail
        have hfl := full_any 1 w6
        rw [e1] at hfl
        refine hfl.mono ?_
        rintro e w7 ⟨rfl, k7⟩
        have HS7 := Lib.hid (HS6.out.later k7)
        clear k7 hfl e1
        go_wp2_with fail
        refine (solo_write HS7.out (-1) (allOf 1) hN0 hN1 (allOf_len 1) (by omega)).mono ?_
        rintro e w8 ⟨rfl, q8, hq8⟩
        rw [HT.out.2.1] at hq8
        have HS8 := Lib.hid hq8
        clear hq8
        have hw1 : IntKind.u8.wrap ((i : Int) + 1) = (i : Int) + 1 := by simp [IntKind.wrap, IntKind.bits, IntKind.signed]; omega
        have hw2 : ((i : Int) + 1) % 256 = (i : Int) + 1 := by omega
        go_wp2_with fail
        clear hw1 hw2
        obtain ⟨cc, hcc⟩ : ∃ cc, UInt8.ofNat (i + 1) = cc := ⟨_, rfl⟩
        have hfl := full_any cc w8
        rw [← hcc, byte_of i (by omega), hcc] at hfl
        have HCC := Lib.hid (show writeD (hitN m i) (i : Int) (allOf cc) = hitN m (i + 1) by rw [← hcc]; rfl)
        clear hcc
        refine hfl.mono ?_
        rintro e w9 ⟨rfl, k9⟩
        have HS9 := Lib.hid (HS8.out.later k9)
        clear k9 hfl
        go_wp2_with fail
        refine (solo_write HS9.out (i : Int) (allOf cc) hN0 hN1 (allOf_len _) (by omega)).mono ?_
        rintro e w10 ⟨rfl, q10, hq10⟩
        rw [HCC.out] at hq10
        have HS10 := Lib.hid hq10
        clear hq10
        have hc10 := (HS10.out.old (j := off + i) hb).trans hcell
        have HS10F := Lib.hid (And.intro hN2 (And.intro hN3 hA2))
        clear hcell hA1 hA2 hN0 hN1 hN2 hN3
        cases hfi : f i with
        | true =>
          rw [hfi] at hc10
          clear hfi
          by_cases hm4 : i + 1 < m
          · have hsy := Lib.hid (hit_sync m hm2 i (by omega) hm4)
            go_wp2_with fail
            refine (solo_start HS10.out HS10F.out.1 HS10F.out.2.1).mono ?_
            rintro e w11 ⟨rfl, q11, hq11⟩
            rw [hsy.out.1] at hq11
            have HS11 := Lib.hid hq11
            clear hq11 hc10
            go_wp2_with fail
            refine (solo_sync HS11.out HS10F.out.1 HS10F.out.2.1 (by have := HS10F.out.2.2; omega)).mono ?_
            rintro e w12 ⟨rfl, q12, hq12⟩
            have HS12 := Lib.hid hq12
            clear hq12
            rw [hsy.out.2]
            by_cases h5 : m = i + 2
            · have g1 : ((m : Int) == (i : Int) + 2) = true := beq_iff_eq.2 (by omega)
              rw [if_pos h5]
              clear h5
              go_wp2_with fail
              go_ret
              exact ⟨rfl, HS12.out.below⟩
            · have g1 : ((m : Int) == (i : Int) + 2) = false := beq_eq_false_iff_ne.2 (by omega)
              rw [if_neg h5]
              clear h5
              go_wp2_with fail
              go_ret
              exact ⟨rfl, HS12.out.below⟩
          · have hsy := Lib.hid (hit_sync2 m hm2 i (by omega) (by omega))
            go_wp2_with fail
            refine (solo_start HS10.out HS10F.out.1 HS10F.out.2.1).mono ?_
            rintro e w11 ⟨rfl, q11, hq11⟩
            have HS11 := Lib.hid hq11
            clear hq11 hc10
            go_wp2_with fail
            refine (solo_sync HS11.out (by rw [startD_n]; exact HS10F.out.1) (by rw [startD_n]; exact HS10F.out.2.1) (startD_armed _ (by have := HS10F.out.2.2; omega))).mono ?_
            rintro e w12 ⟨rfl, q12, hq12⟩
            have HS12 := Lib.hid hq12
            clear hq12
            rw [hsy.out]
            have g1 : ((m : Int) == (i : Int) + 2) = false := beq_eq_false_iff_ne.2 (by omega)
            go_wp2_with fail
            go_ret
            exact ⟨rfl, HS12.out.below⟩
        | false =>
          rw [hfi] at hc10
          clear hfi
          by_cases hm4 : i + 1 < m
          · have g1 : (i : Int) + 1 < (m : Int) := by omega
            have hof := Lib.hid (hitN_on m (i + 1) hm4 (by omega)).1
            rw [HT.out.2.2.1 hm4, (HT.out.1 (by omega)).1, (HT.out.1 (by omega)).2]
            go_wp2_with fail
            refine (solo_down HS10.out HS10F.out.1 HS10F.out.2.1).mono ?_
            rintro e w11 ⟨rfl, k11⟩
            rw [hof.out]
            have HS11 := Lib.hid (HS10.out.later k11)
            clear k11 hc10
            go_wp2_with fail
            go_roundw
            case rel => exact ⟨i + 1, by go_num, by omega, ⟨_, HS11.out⟩⟩
            case measure => simp [intOf]; omega
          · have g1 : ¬ (i : Int) + 1 < (m : Int) := by omega
            have hof := Lib.hid (hitN_off m hm2 (i + 1) (by omega) (by omega)).1
            rw [HT.out.2.2.2 (by omega)]
            go_wp2_with fail
            refine (solo_down HS10.out HS10F.out.1 HS10F.out.2.1).mono ?_
            rintro e w11 ⟨rfl, k11⟩
            rw [hof.out]
            have HS11 := Lib.hid (HS10.out.later k11)
            clear k11 hc10
            go_wp2_with fail
            go_roundw
            case rel => exact ⟨i + 1, by go_num, by omega, ⟨_, HS11.out⟩⟩
            case measure => simp [intOf]; omega
      · have i1 : ¬ (i : Int) < (n : Int) := by omega
        go_wp2_with fail
        go_ret
        exact ⟨rfl, HS.out.below⟩
  · have h1 : decide (15 < n) = true := by simp; omega
    have h2 : (15 : Int) < (n : Int) := by omega
    go_wp2_with fail
    refine (awake_any w2).mono ?_
    rintro e w3 ⟨rfl, k3⟩
    have HB := Lib.hid (HQ2.out.later k3).below
    clear k3
    go_wp2_with fail
    go_ret
    exact ⟨rfl, HB.out⟩

set_option maxRecDepth 100000 in
theorem lifted (os : Os) (started : os.Started) (H : Type) (enc : TypeId × Value → H) :
    ReturnsInHanded {} Try.checked os 6 .any (Rows.diskHitsSpec.pre6 enc Try.prog Try.f6 Rows.diskHitsRow.domain false) (Rows.diskHitsSpec.post enc Try.prog Try.f6 false true false false) := by
  refine returnsInHanded_of_change (C := Try.checked) own started (by kernel_rfl) Try.func6
    (ChangeSpec.witness6 (enc := enc) (C := Try.checked) false ⟨#[], #[.int .i64 0, .slice none 0 0], []⟩ 8 (by kernel_rfl) (by kernel_rfl) (by kernel_rfl) (by kernel_rfl)) ?_
  intro W base args ds gs before hval0 hW hcnd _
  have hval : ∀ (j : Nat) t v, Try.f6.params[j]? = some t → args[j]? = some v → Value.okWide Try.prog W .any base t v := hval0
  have hW' := hW
  obtain ⟨p, q, hA0, hV, rfl, hfz, hnd⟩ := hW
  have hA : DataW.TrodAll enc Try.prog W 0 (fun _ => true) true Try.f6.params.toList args.toList ds p := hA0
  rw [Try.params6] at hA hval
  obtain ⟨v0, vs0, d0, ds0, p0, q0, hargs, rfl, rfl, h0, r0⟩ := trodAll_cons hA
  obtain ⟨v1, vs1, d1, ds1, p1, q1, rfl, rfl, rfl, h1, r1⟩ := trodAll_cons r0
  obtain ⟨rfl, rfl, rfl⟩ := trodAll_nil r1
  obtain rfl : args = #[v0, v1] := by cases args; simp_all
  obtain ⟨a0, rfl, _, _, w0⟩ := open_int Try.underlying3 (hval 0 3 v0 rfl rfl) h0
  obtain ⟨A1, n1, c1, f1, rfl, x1, y1⟩ := Dk.open_flags (hval 1 49 v1 rfl rfl) h1
  refine (walk W a0 w0 A1 n1 c1 f1 x1 y1).mono fun e W' ⟨he, hb⟩ => ?_
  subst he
  exact ⟨_, rfl, Hk.closeLaw (tb := 4) (by kernel_rfl) (by kernel_rfl) rfl rfl rfl Try.underlying4 hW' hb⟩

theorem over : Rows.diskHitsRow.holds Try.pinned (OpenSpec.ofChange Rows.diskHitsSpec) :=
  OpenClaim.holds_of_wide 6 Try.f6 rfl rfl rfl rfl rfl rfl rfl ⟨rfl, rfl, rfl, rfl, rfl⟩ rfl rfl rfl rfl rfl (by kernel_rfl) Try.func6 (by kernel_rfl)
    (of_decide_eq_true (by kernel_rfl)) (by unfold Func.isWrapper; first | (rw [if_pos (by decide +kernel)]; kernel_rfl) | (rw [if_neg (by decide +kernel)]; exact ⟨rfl, rfl⟩))
    (fun os started H enc _ => lifted os started H enc)

/-- The statement. -/
theorem proved : Rows.DiskHitsSaid :=
  over
end Go.Proofs.Yteakoniapgkicaa.diskHits
