/- P6.1, P6.2: what a nil disk answers, whatever is asked of it; a disk may have from one sector to MaxSectors; for every place, number and slice of keeps. No conditions. -/
import Derived.Test.YteakoniapgkicaaDkP
import Derived.Test.YteakoniapgkicaaKitC
namespace Go.Proofs.Yteakoniapgkicaa.diskNil
open Go.ChangeShapes Go.WideShapes Go.ChangeAt Go.RowKit
set_option linter.unusedVariables false

theorem own : ownKnob Try.prog.godebug = none := by kernel_rfl

open By (Bys)
open Dd (Pl At Went NewE ForkE)
open Dk

set_option maxRecDepth 100000 in
set_option maxHeartbeats 4000000 in
theorem walk (w : World) (a0 : Int) (wf0 : (Lit.int .i64 a0).wf = true) (a1 : Int) (wf1 : (Lit.int .i64 a1).wf = true) (A : Option Addr) (n c : Nat) (f : Nat → Int) (hA : Hl.Ints w w.heap.size A n f) (hn : n ≤ 9223372036854775807) (hf : ∀ k, k < n → -9223372036854775808 ≤ f k ∧ f k ≤ 9223372036854775807) :
    Calls Try.prog 7 #[.int .i64 a0, .int .i64 a1, .slice A n c] w fun e w' => e = .returned (.bool true) ∧ Below w.heap.size w w' := by
  obtain ⟨b1, b2⟩ := bounds_i64 wf1
  have HN := Lib.hid Se.noughts_len
  clear hA hf
  go_enter Try.func7, Try.ntmps7
  go_wp2_with fail
  refine (Dd.read_nil w a0).mono ?_
  rintro e w1 ⟨rfl, k1⟩
  go_upto_region 3 with (first
    | (refine new_sec (op := ⟨some 8, _, _, _, _, _⟩) rfl rfl ?_; intro w2 hS2 hB2 hZ2)
    | (refine store_sec (w := w2) rfl _ _ rfl _ rfl _ rfl _ hS2 HN.out ?_; intro w3 hS3 hG3))
  have HB3 := Lib.hid ((below_then k1 hB2).grown hG3 (below_then k1 hB2).size (fun k hk => by injection hk with hk; have := k1.size; omega) : Below w.heap.size w w3)
  clear k1 hB2 hZ2 hS2 hS3 hG3
  have e3 : ((3 : UInt8).toNat : Int) = 3 := rfl
  go_wp2_with fail
  have hfl := full_any 3 w3
  rw [e3] at hfl
  refine hfl.mono ?_
  rintro e w4 ⟨rfl, k4⟩
  have HB4 := Lib.hid (below_then HB3.out k4)
  clear k4 hfl e3
  go_wp2_with fail
  refine (Dd.write_nil w4 a0 (allOf 3) (allOf_len 3)).mono ?_
  rintro e w5 ⟨rfl, k5⟩
  have HB5 := Lib.hid (below_then HB4.out k5)
  clear k5
  go_wp2_with fail
  refine (Dd.sync_nil w5).mono ?_
  rintro e w6 ⟨rfl, k6⟩
  have HB6 := Lib.hid (below_then HB5.out k6)
  clear k6
  go_wp2_with fail
  refine (Dd.arm_nil w6 a1 b2).mono ?_
  rintro e w7 ⟨rfl, k7⟩
  have HB7 := Lib.hid (below_then HB6.out k7)
  clear k7
  go_wp2_with fail
  refine (Dd.crash_nil w7 A n c).mono ?_
  rintro e w8 ⟨rfl, k8⟩
  have HB8 := Lib.hid (below_then HB7.out k8)
  clear k8
  go_wp2_with fail
  refine (Dd.start_nil w8).mono ?_
  rintro e w9 ⟨rfl, k9⟩
  have HB9 := Lib.hid (below_then HB8.out k9)
  clear k9
  go_wp2_with fail
  by_cases hin : 1 ≤ a1 ∧ a1 ≤ 20000
  · obtain ⟨m, hm⟩ : ∃ m : Nat, a1 = (m : Int) := ⟨a1.toNat, by omega⟩
    subst hm
    have m1 : 1 ≤ m := by omega
    have m2 : m ≤ 20000 := by omega
    have m3 : (1 : Int) ≤ (m : Int) := by omega
    have m4 : (m : Int) ≤ 20000 := by omega
    refine (Dd.new_ok w9 m m1 m2).mono ?_
    rintro e w10 ⟨q, rfl, hq, hlo, k10⟩
    have HB10 := Lib.hid (below_then HB9.out k10)
    have HQ := Lib.hid hq
    clear hq hlo k10 hin
    by_cases h2 : 2000 < m
    · have m5 : (2000 : Int) < (m : Int) := by omega
      go_wp2_with fail
      refine (awake_any w10).mono ?_
      rintro e w11 ⟨rfl, k11⟩
      have HB11 := Lib.hid (below_then HB10.out k11)
      clear k11
      go_wp2_with fail
      go_ret
      exact ⟨rfl, HB11.out⟩
    · have m5 : ¬ (2000 : Int) < (m : Int) := by omega
      have m6 : decide (2000 < m) = false := by simp; omega
      have m7 : decide (m ≤ 20000) = true := by simp; omega
      have m8 : decide (1 ≤ m) = true := by simp; omega
      go_wp2_with fail
      refine (awake_any w10).mono ?_
      rintro e w11 ⟨rfl, k11⟩
      have HB11 := Lib.hid (below_then HB10.out k11)
      have HQ11 := Lib.hid (at_below HQ.out k11)
      clear k11
      go_wp2_with fail
      refine (Dd.down_nil w11).mono ?_
      rintro e w12 ⟨rfl, k12⟩
      have HB12 := Lib.hid (below_then HB11.out k12)
      have HQ12 := Lib.hid (at_below HQ11.out k12)
      clear k12
      go_wp2_with fail
      refine (Dd.len_nil w12).mono ?_
      rintro e w13 ⟨rfl, k13⟩
      have HB13 := Lib.hid (below_then HB12.out k13)
      have HQ13 := Lib.hid (at_below HQ12.out k13)
      clear k13
      go_wp2_with fail
      refine (Dd.fork_nil w13).mono ?_
      rintro e w14 ⟨rfl, k14⟩
      have HB14 := Lib.hid (below_then HB13.out k14)
      have HQ14 := Lib.hid (at_below HQ13.out k14)
      clear k14
      go_wp2_with fail
      refine (Dd.len_any w14 w9.heap.size q (dsNew m) HQ14.out (by rw [dsNew_n]; omega) (by rw [dsNew_n]; omega)).mono ?_
      rintro e w15 ⟨rfl, k15⟩
      have HB15 := Lib.hid (below_then HB14.out k15)
      rw [dsNew_n]
      clear k15
      go_wp2_with fail
      go_ret
      exact ⟨rfl, HB15.out⟩
  · refine (Dd.new_bad w9 a1 (by omega)).mono ?_
    rintro e w10 ⟨rfl, k10⟩
    have HB10 := Lib.hid (below_then HB9.out k10)
    clear k10
    by_cases h1 : a1 < 1
    case' pos =>
      have m1 : ¬ (2000 : Int) < a1 := by omega
      have m2 : ¬ (1 : Int) ≤ a1 := by omega
      have m3 : decide (1 ≤ a1) = false := by simp; omega
      have m4 : decide (2000 < a1) = false := by simp; omega
      have m5 : decide (0 < a1) = false := by simp; omega
    case' neg =>
      have m1 : (2000 : Int) < a1 := by omega
      have m2 : (1 : Int) ≤ a1 := by omega
      have m3 : ¬ a1 ≤ 20000 := by omega
      have m4 : decide (a1 ≤ 20000) = false := by simp; omega
      have m5 : decide (1 ≤ a1) = true := by simp; omega
    all_goals
      clear hin h1
      go_wp2_with fail
      refine (awake_any w10).mono ?_
      rintro e w11 ⟨rfl, k11⟩
      have HB11 := Lib.hid (below_then HB10.out k11)
      clear k11
      go_wp2_with fail
      refine (Dd.down_nil w11).mono ?_
      rintro e w12 ⟨rfl, k12⟩
      have HB12 := Lib.hid (below_then HB11.out k12)
      clear k12
      go_wp2_with fail
      refine (Dd.len_nil w12).mono ?_
      rintro e w13 ⟨rfl, k13⟩
      have HB13 := Lib.hid (below_then HB12.out k13)
      clear k13
      go_wp2_with fail
      refine (Dd.fork_nil w13).mono ?_
      rintro e w14 ⟨rfl, k14⟩
      have HB14 := Lib.hid (below_then HB13.out k14)
      clear k14
      go_wp2_with fail
      go_ret
      exact ⟨rfl, HB14.out⟩

set_option maxRecDepth 100000 in
theorem lifted (os : Os) (started : os.Started) (H : Type) (enc : TypeId × Value → H) :
    ReturnsInHanded {} Try.checked os 7 .any (Rows.diskNilSpec.pre6 enc Try.prog Try.f7 Rows.diskNilRow.domain false) (Rows.diskNilSpec.post enc Try.prog Try.f7 false true false false) := by
  refine returnsInHanded_of_change (C := Try.checked) own started (by kernel_rfl) Try.func7
    (ChangeSpec.witness6 (enc := enc) (C := Try.checked) false ⟨#[], #[.int .i64 0, .int .i64 0, .slice none 0 0], []⟩ 8 (by kernel_rfl) (by kernel_rfl) (by kernel_rfl) (by kernel_rfl)) ?_
  intro W base args ds gs before hval0 hW hcnd _
  have hval : ∀ (j : Nat) t v, Try.f7.params[j]? = some t → args[j]? = some v → Value.okWide Try.prog W .any base t v := hval0
  have hW' := hW
  obtain ⟨p, q, hA0, hV, rfl, hfz, hnd⟩ := hW
  have hA : DataW.TrodAll enc Try.prog W 0 (fun _ => true) true Try.f7.params.toList args.toList ds p := hA0
  rw [Try.params7] at hA hval
  obtain ⟨v0, vs0, d0, ds0, p0, q0, hargs, rfl, rfl, h0, r0⟩ := trodAll_cons hA
  obtain ⟨v1, vs1, d1, ds1, p1, q1, rfl, rfl, rfl, h1, r1⟩ := trodAll_cons r0
  obtain ⟨v2, vs2, d2, ds2, p2, q2, rfl, rfl, rfl, h2, r2⟩ := trodAll_cons r1
  obtain ⟨rfl, rfl, rfl⟩ := trodAll_nil r2
  obtain rfl : args = #[v0, v1, v2] := by cases args; simp_all
  obtain ⟨a0, rfl, _, _, w0⟩ := open_int Try.underlying3 (hval 0 3 v0 rfl rfl) h0
  obtain ⟨a1, rfl, _, _, w1⟩ := open_int Try.underlying3 (hval 1 3 v1 rfl rfl) h1
  obtain ⟨A2, n2, c2, f2, rfl, x2, y2, z2, u2⟩ := Hk.open_ints_at Try.underlying33 Try.underlying3 (by kernel_rfl) (hval 2 33 v2 rfl rfl) h2
  refine (walk W a0 w0 a1 w1 A2 n2 c2 f2 x2 y2 z2).mono fun e W' ⟨he, hb⟩ => ?_
  subst he
  exact ⟨_, rfl, Hk.closeLaw (tb := 4) (by kernel_rfl) (by kernel_rfl) rfl rfl rfl Try.underlying4 hW' hb⟩

theorem over : Rows.diskNilRow.holds Try.pinned (OpenSpec.ofChange Rows.diskNilSpec) :=
  OpenClaim.holds_of_wide 7 Try.f7 rfl rfl rfl rfl rfl rfl rfl ⟨rfl, rfl, rfl, rfl, rfl⟩ rfl rfl rfl rfl rfl (by kernel_rfl) Try.func7 (by kernel_rfl)
    (of_decide_eq_true (by kernel_rfl)) (by unfold Func.isWrapper; first | (rw [if_pos (by decide +kernel)]; kernel_rfl) | (rw [if_neg (by decide +kernel)]; exact ⟨rfl, rfl⟩))
    (fun os started H enc _ => lifted os started H enc)

/-- The statement. -/
theorem proved : Rows.DiskNilSaid :=
  over
end Go.Proofs.Yteakoniapgkicaa.diskNil
