/- P6.2: two disks that are alike go on alike, each for itself: whatever befalls the one, the other is as it was; for every two slices of steps, up to forty each. No conditions. -/
import Derived.Test.YteakoniapgkicaaDkP
import Derived.Test.YteakoniapgkicaaKitC
namespace Go.Proofs.Yteakoniapgkicaa.diskForks
open Go.ChangeShapes Go.WideShapes Go.ChangeAt Go.RowKit
set_option linter.unusedVariables false

theorem own : ownKnob Try.prog.godebug = none := by kernel_rfl

open By (Bys)
open Dd (Pl At Went NewE ForkE)
open Dk

set_option maxRecDepth 100000 in
set_option maxHeartbeats 4000000 in
theorem walk (w : World) (a0 : Int) (wf0 : (Lit.int .i64 a0).wf = true) (A : Option Addr) (n c : Nat) (o : Nat → Opr) (ha : Oprs w A n o) (hn : n ≤ 9223372036854775807) (A' : Option Addr) (n' c' : Nat) (o' : Nat → Opr) (ha' : Oprs w A' n' o') (hn' : n' ≤ 9223372036854775807) :
    Calls Try.prog 4 #[.int .i64 a0, .slice A n c, .slice A' n' c'] w fun e w' => e = .returned (.bool true) ∧ Below w.heap.size w w' := by
  obtain ⟨t, ht, ht3, htm, htu⟩ := By.umod_in a0 9 (by omega) (by omega)
  have htt := u64_tmod htm
  obtain ⟨m, hm⟩ : ∃ m : Nat, t + 1 = m := ⟨_, rfl⟩
  have hm1 : (1 : Int) + (t : Int) = (m : Int) := by omega
  have hm2 : 1 ≤ m := by omega
  have hm3 : m ≤ 9 := by omega
  have HA := Lib.hid ha
  have HA' := Lib.hid ha'
  clear ha ha' hm htm
  go_enter Try.func4, Try.ntmps4
  go_wp2_with fail
  clear ht htt htu hm1 ht3
  refine (Dd.new_ok w m hm2 (by omega)).mono ?_
  rintro e w1 ⟨q, rfl, hq, hlo, hb⟩
  have HQ1 := Lib.hid (And.intro hq (And.intro hlo hb))
  clear hq hlo hb
  go_wp2_with fail
  refine (rnew_any w1 m (by omega)).mono ?_
  rintro e w3 ⟨p, rfl, hp, hlp, hb3⟩
  have HY := Lib.hid (start_lone HQ1.out.1 HQ1.out.2.1 HQ1.out.2.2 (Below.refl _ _) hp hlp hb3 (dsNew_n m))
  clear hp hlp hb3 HQ1
  go_wp2_with fail
  go_loopw [10] (fun s10 wr => ∃ i : Nat, s10 = .int .i64 (i : Int) ∧ i ≤ n ∧ i ≤ 40 ∧ At1 w wr m q.x p.x) (fun s _ => 40 - (intOf s).toNat)
  case atStart => exact ⟨0, rfl, by omega, by omega, ⟨_, _, _, _, _, HY.out, rfl⟩⟩
  case round =>
    clear HY
    obtain ⟨i, rfl, hi, hi40, ⟨qa, pa, B, C, d, hP, hpx⟩⟩ := hrel
    have i0 : (0 : Int) ≤ (i : Int) := by omega
    have n1 : (n : Int) ≤ 9223372036854775807 := by omega
    have HP := Lib.hid hP
    have HPX := Lib.hid hpx
    clear hP hpx
    by_cases hlt : i < n ∧ i < 40
    · have i1 : (i : Int) < (n : Int) := by omega
      have i2 : (i : Int) < 40 := by omega
      have i3 : decide (i < n) = true := by simp; omega
      obtain ⟨b, off, rfl, hb, hcs, hok⟩ := HA.out i hlt.1
      have e0 := (HP.out.below.cell (p := ⟨b, off + i * 4, none⟩) hb).trans (hcs 0 (by omega))
      have e1 := (HP.out.below.cell (p := ⟨b, off + i * 4 + 1, none⟩) hb).trans (hcs 1 (by omega))
      have e2 := (HP.out.below.cell (p := ⟨b, off + i * 4 + 2, none⟩) hb).trans (hcs 2 (by omega))
      have e3 := (HP.out.below.cell (p := ⟨b, off + i * 4 + 3, none⟩) hb).trans (hcs 3 (by omega))
      have E3 := Lib.hid (And.intro hb (hcs 3 (by omega)))
      simp [Opr.cells] at e0 e1 e2 e3
      have HOK := Lib.hid hok
      generalize o i = s at *
      clear hcs hb hok
      by_cases h40 : s.kn ≤ 40
      · have k1 : (s.kn : Int) ≤ 40 := by omega
        have k2 : decide (40 < s.kn) = false := by simp; omega
        have k3 : decide (40 < (s.kn : Int)) = false := by simp; omega
        go_wp2_with fail
        refine (step_in HP.out (by omega) (by omega) HOK.out h40 (Below.refl _ _) _ ⟨HOK.out.at1, HOK.out.at2⟩ HPX.out).mono ?_
        rintro e w6 ⟨rfl, hb6⟩
        obtain ⟨q', hP6⟩ := HP.out.stepped hb6 (step_n _ _ _ _ _ _) (step_armed HP.out.armed HOK.out.at2)
        have HP6 := Lib.hid hP6
        clear hb6 hP6
        go_wp2_with fail
        go_roundw
        case rel => exact ⟨i + 1, by go_num, by omega, by omega, ⟨_, _, _, _, _, HP6.out, HPX.out⟩⟩
        case measure => simp [intOf]; omega
      · have k1 : (40 : Int) < (s.kn : Int) := by omega
        have k2 : decide (40 < s.kn) = true := by simp; omega
        have k3 : decide (40 < (s.kn : Int)) = true := by simp; omega
        go_wp2_with fail
        refine (awake_any wr).mono ?_
        rintro e w2 ⟨rfl, k5⟩
        have e3' := (k5.cell (p := ⟨b, off + i * 4 + 3, none⟩) (by have := HP.out.below.size; have := E3.out.1; show b < _; omega)).trans e3
        have HB := Lib.hid (HP.out.below.trans (k5.mono HP.out.below.size))
        clear k5 e3
        go_wp2_with fail
        go_ret
        exact ⟨rfl, HB.out⟩
    · by_cases hin : i < n
      case' pos =>
        have i1 : (i : Int) < (n : Int) := by omega
        have i2 : ¬ (i : Int) < 40 := by omega
        have i3 : decide (i < n) = true := by simp; omega
      case' neg =>
        have i1 : ¬ (i : Int) < (n : Int) := by omega
        have i3 : decide (i < n) = false := by simp; omega
      all_goals
        go_wp2_with fail
        refine (fork_in HP.out (by omega) (by omega)).mono ?_
        rintro e w8 ⟨q8, rfl, h8, hl8, k8⟩
        have HQ8 := Lib.hid (And.intro h8 (And.intro hl8 k8))
        clear h8 hl8 k8
        go_wp2_with fail
        refine (copy_in (HP.out.later HQ8.out.2.2) (by omega) (by omega) HPX.out).mono ?_
        rintro e w9 ⟨p9, rfl, h9, hl9, k9⟩
        have HP9 := Lib.hid (HP.out.forked_back HQ8.out.1 HQ8.out.2.1 HQ8.out.2.2 h9 hl9 k9)
        have HX := Lib.hid HP.out.x
        clear h9 hl9 k9
        go_wp2_with fail
        refine (awake_any w9).mono ?_
        rintro e w10 ⟨rfl, k10⟩
        have HP10 := Lib.hid (HP9.out.later k10)
        clear k10
        go_wp2_with fail
        obtain ⟨wo, rfl⟩ : ∃ wo : World, wo = wr := ⟨_, rfl⟩
        obtain ⟨B2, hB2⟩ : ∃ B2, B = B2 := ⟨_, rfl⟩
        go_loopw [13] (fun s13 wr => ∃ j : Nat, s13 = .int .i64 (j : Int) ∧ j ≤ n' ∧ j ≤ 40 ∧ At2 w wr m q8.x p9.x qa pa B C d) (fun s _ => 40 - (intOf s).toNat)
        case atStart => exact ⟨0, rfl, by omega, by omega, ⟨_, _, _, _, _, HP10.out, rfl⟩⟩
        case round =>
          clear HP9 HP10 HQ8 HP hB2
          obtain ⟨j, rfl, hj, hj40, ⟨qb, pb, B3, C3, d3, hP, hpx⟩⟩ := hrel
          have j0 : (0 : Int) ≤ (j : Int) := by omega
          have n2 : (n' : Int) ≤ 9223372036854775807 := by omega
          have HP := Lib.hid hP
          have HPY := Lib.hid hpx
          clear hP hpx
          by_cases hlt2 : j < n' ∧ j < 40
          · have j1 : (j : Int) < (n' : Int) := by omega
            have j2 : (j : Int) < 40 := by omega
            have j3 : decide (j < n') = true := by simp; omega
            obtain ⟨b, off, rfl, hb, hcs, hok⟩ := HA'.out j hlt2.1
            have e0 := (HP.out.below.cell (p := ⟨b, off + j * 4, none⟩) hb).trans (hcs 0 (by omega))
            have e1 := (HP.out.below.cell (p := ⟨b, off + j * 4 + 1, none⟩) hb).trans (hcs 1 (by omega))
            have e2 := (HP.out.below.cell (p := ⟨b, off + j * 4 + 2, none⟩) hb).trans (hcs 2 (by omega))
            have e3 := (HP.out.below.cell (p := ⟨b, off + j * 4 + 3, none⟩) hb).trans (hcs 3 (by omega))
            simp [Opr.cells] at e0 e1 e2 e3
            have HOK := Lib.hid hok
            generalize o' j = s at *
            clear hcs hb hok
            by_cases h40 : s.kn ≤ 40
            · have k1 : (s.kn : Int) ≤ 40 := by omega
              have k2 : decide (40 < s.kn) = false := by simp; omega
              go_wp2_with fail
              refine (step_in HP.out.lone (by omega) (by omega) HOK.out h40 (Below.refl _ _) _ ⟨HOK.out.at1, HOK.out.at2⟩ HPY.out).mono ?_
              rintro e w6 ⟨rfl, hb6⟩
              obtain ⟨q', hP6⟩ := HP.out.stepped hb6 (step_n _ _ _ _ _ _) (step_armed HP.out.armed HOK.out.at2)
              have HP6 := Lib.hid hP6
              clear hb6 hP6
              go_wp2_with fail
              refine (same_in HP6.out.lone (by omega) (by omega) HPY.out).mono ?_
              rintro e w7 ⟨rfl, k7⟩
              have HP7 := Lib.hid (HP6.out.later k7)
              clear k7
              go_wp2_with fail
              go_roundw
              case rel => exact ⟨j + 1, by go_num, by omega, by omega, ⟨_, _, _, _, _, HP7.out, HPY.out⟩⟩
              case measure => simp [intOf]; omega
            · have k1 : (40 : Int) < (s.kn : Int) := by omega
              have k2 : decide (40 < s.kn) = true := by simp; omega
              go_wp2_with fail
              go_ret
              exact ⟨rfl, HP.out.below⟩
          · have HS := Lib.hid (same_elder HP.out (by omega) (by omega) HX.out HPX.out)
            by_cases hjn : j < n'
            · have j1 : (j : Int) < (n' : Int) := by omega
              have j2 : ¬ (j : Int) < 40 := by omega
              have j3 : decide (j < n') = true := by simp; omega
              go_wp2_with fail
              refine HS.out.mono ?_
              rintro e w6 ⟨rfl, k6⟩
              have HB := Lib.hid (HP.out.below.trans (k6.mono HP.out.below.size))
              clear k6
              go_wp2_with fail
              go_ret
              exact ⟨rfl, HB.out⟩
            · have j1 : ¬ (j : Int) < (n' : Int) := by omega
              have j3 : decide (j < n') = false := by simp; omega
              go_wp2_with fail
              refine HS.out.mono ?_
              rintro e w6 ⟨rfl, k6⟩
              have HB := Lib.hid (HP.out.below.trans (k6.mono HP.out.below.size))
              clear k6
              go_wp2_with fail
              go_ret
              exact ⟨rfl, HB.out⟩

set_option maxRecDepth 100000 in
theorem lifted (os : Os) (started : os.Started) (H : Type) (enc : TypeId × Value → H) :
    ReturnsInHanded {} Try.checked os 4 .any (Rows.diskForksSpec.pre6 enc Try.prog Try.f4 Rows.diskForksRow.domain false) (Rows.diskForksSpec.post enc Try.prog Try.f4 false true false false) := by
  refine returnsInHanded_of_change (C := Try.checked) own started (by kernel_rfl) Try.func4
    (ChangeSpec.witness6 (enc := enc) (C := Try.checked) false ⟨#[], #[.int .i64 0, .slice none 0 0, .slice none 0 0], []⟩ 8 (by kernel_rfl) (by kernel_rfl) (by kernel_rfl) (by kernel_rfl)) ?_
  intro W base args ds gs before hval0 hW hcnd _
  have hval : ∀ (j : Nat) t v, Try.f4.params[j]? = some t → args[j]? = some v → Value.okWide Try.prog W .any base t v := hval0
  have hW' := hW
  obtain ⟨p, q, hA0, hV, rfl, hfz, hnd⟩ := hW
  have hA : DataW.TrodAll enc Try.prog W 0 (fun _ => true) true Try.f4.params.toList args.toList ds p := hA0
  rw [Try.params4] at hA hval
  obtain ⟨v0, vs0, d0, ds0, p0, q0, hargs, rfl, rfl, h0, r0⟩ := trodAll_cons hA
  obtain ⟨v1, vs1, d1, ds1, p1, q1, rfl, rfl, rfl, h1, r1⟩ := trodAll_cons r0
  obtain ⟨v2, vs2, d2, ds2, p2, q2, rfl, rfl, rfl, h2, r2⟩ := trodAll_cons r1
  obtain ⟨rfl, rfl, rfl⟩ := trodAll_nil r2
  obtain rfl : args = #[v0, v1, v2] := by cases args; simp_all
  obtain ⟨a0, rfl, _, _, w0⟩ := open_int Try.underlying3 (hval 0 3 v0 rfl rfl) h0
  obtain ⟨A1, n1, c1, o1, rfl, x1, y1⟩ := Dk.open_oprs (hval 1 22 v1 rfl rfl) h1
  obtain ⟨A2, n2, c2, o2, rfl, x2, y2⟩ := Dk.open_oprs (hval 2 22 v2 rfl rfl) h2
  refine (walk W a0 w0 A1 n1 c1 o1 x1 y1 A2 n2 c2 o2 x2 y2).mono fun e W' ⟨he, hb⟩ => ?_
  subst he
  exact ⟨_, rfl, Hk.closeLaw (tb := 4) (by kernel_rfl) (by kernel_rfl) rfl rfl rfl Try.underlying4 hW' hb⟩

theorem over : Rows.diskForksRow.holds Try.pinned (OpenSpec.ofChange Rows.diskForksSpec) :=
  OpenClaim.holds_of_wide 4 Try.f4 rfl rfl rfl rfl rfl rfl rfl ⟨rfl, rfl, rfl, rfl, rfl⟩ rfl rfl rfl rfl rfl (by kernel_rfl) Try.func4 (by kernel_rfl)
    (of_decide_eq_true (by kernel_rfl)) (by unfold Func.isWrapper; first | (rw [if_pos (by decide +kernel)]; kernel_rfl) | (rw [if_neg (by decide +kernel)]; exact ⟨rfl, rfl⟩))
    (fun os started H enc _ => lifted os started H enc)

/-- The statement. -/
theorem proved : Rows.DiskForksSaid :=
  over
end Go.Proofs.Yteakoniapgkicaa.diskForks
