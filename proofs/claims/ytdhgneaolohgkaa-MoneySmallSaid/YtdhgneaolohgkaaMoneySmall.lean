/- P1.2: of numbers below 2^20 Times answers the whole part, the nearest, and of two as near the greater or the even one; for every int64. No conditions. -/
import Derived.Test.YtdhgneaolohgkaaMnD
namespace Go.Proofs.Ytdhgneaolohgkaa.moneySmall
open Go.ChangeShapes Go.WideShapes Go.ChangeAt Go.RowKit
set_option linter.unusedVariables false

theorem own : ownKnob Try.prog.godebug = none := by kernel_rfl

set_option maxHeartbeats 4000000 in
theorem walk (a0 a1 a2 : Int) (w0 : (Lit.int .i64 a0).wf = true) (w1 : (Lit.int .i64 a1).wf = true) (w2 : (Lit.int .i64 a2).wf = true) (w : World) :
    Calls Try.prog 4 #[.int .i64 a0, .int .i64 a1, .int .i64 a2] w fun e w' => e = .returned (.bool true) ∧ Below w.heap.size w w' := by
  clear w0 w1 w2
  go_enter Try.func4, Try.ntmps4
  go_wp2_with fail
  refine (Mn.mod64_any _ _ _ (by omega) (by omega)).mono ?_
  rintro e w1 ⟨⟨x, x0, x1, rfl⟩, rfl⟩
  go_wp2_with fail
  refine (Mn.mod64_any _ _ _ (by omega) (by omega)).mono ?_
  rintro e w1 ⟨⟨y, y0, y1, rfl⟩, rfl⟩
  go_wp2_with fail
  refine (Mn.mod64_any _ _ _ (by omega) (by omega)).mono ?_
  rintro e w1 ⟨⟨z, z0, z1, rfl⟩, rfl⟩
  go_wp2_with fail
  obtain ⟨d, hd⟩ : ∃ d, d = 1 + z := ⟨_, rfl⟩
  have d0 : 1 ≤ d := by omega
  have d1 : d ≤ 1048576 := by omega
  rw [← hd]
  clear hd z0 z1
  have N0 : 0 ≤ x * y := Int.mul_nonneg x0 y0
  have N1 : x * y ≤ 1048576 * 1048576 := Int.mul_le_mul (by omega) (by omega) y0 (by omega)
  have need := Mn.need_small x y d N0 (by omega) d0 (by omega)
  have hq0 : 0 ≤ x * y / d := Int.ediv_nonneg N0 (by omega)
  have hq1 : x * y / d ≤ x * y := Int.ediv_le_self _ N0
  have hr0 : 0 ≤ x * y % d := Int.emod_nonneg _ (by omega)
  have hr1 : x * y % d < d := Int.emod_lt_of_pos _ (by omega)
  have hs : x * y = x * y / d * d + x * y % d := by rw [Int.mul_comm (x * y / d) d]; exact (Int.mul_ediv_add_emod _ _).symm
  have n1 := Lib.hid (Mn.times_eq 0 x y d _ _ _ hs hr0 hr1 (by simp [Mn.rnd]) (show x * y / d ≤ _ by omega))
  by_cases hp : 2 * (x * y % d) < d
  · have n2 := Lib.hid (Mn.times_eq 1 x y d _ _ (x * y / d) hs hr0 hr1 (by simp [Mn.rnd]; omega) (by omega))
    have n3 := Lib.hid (Mn.times_eq 2 x y d _ _ (x * y / d) hs hr0 hr1 (by simp [Mn.rnd]; omega) (by omega))
    have e1 : (2 * (x * y % d) == d) = false := by simp; omega
    clear hs
    go_wp2_with fail
    refine (Mn.times_is 0 x y d _ _ _ x0 (by omega) y0 (by omega) d0 (by omega) (by omega) (by omega) need n1.out).mono ?_
    rintro e w2 ⟨rfl, hb1⟩
    go_wp2_with fail
    refine (Mn.times_is 1 x y d _ _ _ x0 (by omega) y0 (by omega) d0 (by omega) (by omega) (by omega) need n2.out).mono ?_
    rintro e w3 ⟨rfl, hb2⟩
    go_wp2_with fail
    refine (Mn.times_is 2 x y d _ _ _ x0 (by omega) y0 (by omega) d0 (by omega) (by omega) (by omega) need n3.out).mono ?_
    rintro e w4 ⟨rfl, hb3⟩
    go_wp2_with fail
    go_quiet (fail)
    go_wp2_with fail
    refine (Mn.awake1 _).mono ?_
    rintro e w5 ⟨rfl, hb4⟩
    go_wp2
    all_goals
      go_ret
      exact ⟨rfl, Hk.andThen (Hk.andThen (Hk.andThen (Hk.andThen hb1 hb2) hb3) (Mn.belowDrewN _ _ _)) hb4⟩
  by_cases hp2 : d < 2 * (x * y % d)
  · have n2 := Lib.hid (Mn.times_eq 1 x y d _ _ (x * y / d + 1) hs hr0 hr1 (by simp [Mn.rnd]; omega) (by omega))
    have n3 := Lib.hid (Mn.times_eq 2 x y d _ _ (x * y / d + 1) hs hr0 hr1 (by simp [Mn.rnd]; omega) (by omega))
    have e1 : (2 * (x * y % d) == d) = false := by simp; omega
    clear hs
    go_wp2_with fail
    refine (Mn.times_is 0 x y d _ _ _ x0 (by omega) y0 (by omega) d0 (by omega) (by omega) (by omega) need n1.out).mono ?_
    rintro e w2 ⟨rfl, hb1⟩
    go_wp2_with fail
    refine (Mn.times_is 1 x y d _ _ _ x0 (by omega) y0 (by omega) d0 (by omega) (by omega) (by omega) need n2.out).mono ?_
    rintro e w3 ⟨rfl, hb2⟩
    go_wp2_with fail
    refine (Mn.times_is 2 x y d _ _ _ x0 (by omega) y0 (by omega) d0 (by omega) (by omega) (by omega) need n3.out).mono ?_
    rintro e w4 ⟨rfl, hb3⟩
    go_wp2_with fail
    go_quiet (fail)
    go_wp2_with fail
    refine (Mn.awake1 _).mono ?_
    rintro e w5 ⟨rfl, hb4⟩
    go_wp2
    all_goals
      go_ret
      exact ⟨rfl, Hk.andThen (Hk.andThen (Hk.andThen (Hk.andThen hb1 hb2) hb3) (Mn.belowDrewN _ _ _)) hb4⟩
  by_cases hp3 : x * y / d % 2 = 1
  · have n2 := Lib.hid (Mn.times_eq 1 x y d _ _ (x * y / d + 1) hs hr0 hr1 (by simp [Mn.rnd]; omega) (by omega))
    have n3 := Lib.hid (Mn.times_eq 2 x y d _ _ (x * y / d + 1) hs hr0 hr1 (by simp [Mn.rnd]; omega) (by omega))
    have e1 : (2 * (x * y % d) == d) = true := by simp; omega
    have e2 : (x * y / d % 2 == 1) = true := by simp [hp3]
    clear hs
    go_wp2_with fail
    refine (Mn.times_is 0 x y d _ _ _ x0 (by omega) y0 (by omega) d0 (by omega) (by omega) (by omega) need n1.out).mono ?_
    rintro e w2 ⟨rfl, hb1⟩
    go_wp2_with fail
    refine (Mn.times_is 1 x y d _ _ _ x0 (by omega) y0 (by omega) d0 (by omega) (by omega) (by omega) need n2.out).mono ?_
    rintro e w3 ⟨rfl, hb2⟩
    go_wp2_with fail
    refine (Mn.times_is 2 x y d _ _ _ x0 (by omega) y0 (by omega) d0 (by omega) (by omega) (by omega) need n3.out).mono ?_
    rintro e w4 ⟨rfl, hb3⟩
    go_wp2_with fail
    go_quiet (fail)
    go_wp2_with fail
    refine (Mn.awake1 _).mono ?_
    rintro e w5 ⟨rfl, hb4⟩
    go_wp2
    all_goals
      go_ret
      exact ⟨rfl, Hk.andThen (Hk.andThen (Hk.andThen (Hk.andThen hb1 hb2) hb3) (Mn.belowDrewN _ _ _)) hb4⟩
  · have n2 := Lib.hid (Mn.times_eq 1 x y d _ _ (x * y / d + 1) hs hr0 hr1 (by simp [Mn.rnd]; omega) (by omega))
    have n3 := Lib.hid (Mn.times_eq 2 x y d _ _ (x * y / d) hs hr0 hr1 (by simp [Mn.rnd]; omega) (by omega))
    have e1 : (2 * (x * y % d) == d) = true := by simp; omega
    have e2 : (x * y / d % 2 == 1) = false := by simp [hp3]
    clear hs
    go_wp2_with fail
    refine (Mn.times_is 0 x y d _ _ _ x0 (by omega) y0 (by omega) d0 (by omega) (by omega) (by omega) need n1.out).mono ?_
    rintro e w2 ⟨rfl, hb1⟩
    go_wp2_with fail
    refine (Mn.times_is 1 x y d _ _ _ x0 (by omega) y0 (by omega) d0 (by omega) (by omega) (by omega) need n2.out).mono ?_
    rintro e w3 ⟨rfl, hb2⟩
    go_wp2_with fail
    refine (Mn.times_is 2 x y d _ _ _ x0 (by omega) y0 (by omega) d0 (by omega) (by omega) (by omega) need n3.out).mono ?_
    rintro e w4 ⟨rfl, hb3⟩
    go_wp2_with fail
    go_quiet (fail)
    go_wp2_with fail
    refine (Mn.awake1 _).mono ?_
    rintro e w5 ⟨rfl, hb4⟩
    go_wp2
    all_goals
      go_ret
      exact ⟨rfl, Hk.andThen (Hk.andThen (Hk.andThen (Hk.andThen hb1 hb2) hb3) (Mn.belowDrewN _ _ _)) hb4⟩

set_option maxRecDepth 100000 in
theorem lifted (os : Os) (started : os.Started) (H : Type) (enc : TypeId × Value → H) :
    ReturnsInHanded {} Try.checked os 4 .any (Rows.moneySmallSpec.pre6 enc Try.prog Try.f4 Rows.moneySmallRow.domain false) (Rows.moneySmallSpec.post enc Try.prog Try.f4 false true false false) := by
  refine returnsInHanded_of_change (C := Try.checked) own started (by kernel_rfl) Try.func4
    (ChangeSpec.witness6 (enc := enc) (C := Try.checked) false ⟨#[], #[.int .i64 0, .int .i64 0, .int .i64 0], []⟩ 8 (by kernel_rfl) (by kernel_rfl) (by kernel_rfl) (by kernel_rfl)) ?_
  intro W base args ds gs before hval0 hW hcnd _
  have hval : ∀ (j : Nat) t v, Try.f4.params[j]? = some t → args[j]? = some v → Value.okWide Try.prog W .any base t v := hval0
  have hW' := hW
  obtain ⟨p, q, hA0, hV, rfl, hfz, hnd⟩ := hW
  have hA : DataW.TrodAll enc Try.prog W 0 (fun _ => true) true Try.f4.params.toList args.toList ds p := hA0
  rw [Try.params4] at hA hval
  obtain ⟨v0, vs0, d0, ds0, p0, q0, hargs, rfl, rfl, h0, r0⟩ := trodAll_cons hA
  obtain ⟨v1, vs1, d1, ds1, p1, q1, rfl, rfl, rfl, h1, r1⟩ := trodAll_cons r0
  obtain ⟨v2, vs2, d2, ds2, p2, q2, rfl, rfl, rfl, h2, r2⟩ := trodAll_cons r1
  obtain ⟨rfl, rfl, rfl⟩ := trodAll_nil r2
  obtain rfl : args = #[v0, v1, v2] := by cases args; simp_all
  obtain ⟨rfl, rfl⟩ := trodVars_none hV
  obtain ⟨a0, rfl, rfl, rfl, w0⟩ := open_int Try.underlying2 (hval 0 2 v0 rfl rfl) h0
  obtain ⟨a1, rfl, rfl, rfl, w1⟩ := open_int Try.underlying2 (hval 1 2 v1 rfl rfl) h1
  obtain ⟨a2, rfl, rfl, rfl, w2⟩ := open_int Try.underlying2 (hval 2 2 v2 rfl rfl) h2
  clear hA0 hval0
  simp only [List.append_nil] at hW'
  refine (walk a0 a1 a2 w0 w1 w2 W).mono fun e W' ⟨he, hb⟩ => ?_
  subst he
  exact ⟨_, rfl, Hk.closeRow (pa := []) (pv := []) hW' hb rfl (fun _ _ _ => (trodAll_cons_mk (shut_bool Try.underlying4 _) trodAll_mk0)) (fun sp _ => (trodAll_cons_mk (shut_int Try.underlying2 w0) (trodAll_cons_mk (shut_int Try.underlying2 w1) (trodAll_cons_mk (shut_int Try.underlying2 w2) trodAll_mk0)))) (fun _ _ => rfl) (ok_one (by kernel_rfl) rfl (okWide_bool_mk Try.underlying4 _))⟩

theorem over : Rows.moneySmallRow.holds Try.pinned (OpenSpec.ofChange Rows.moneySmallSpec) :=
  OpenClaim.holds_of_wide 4 Try.f4 rfl rfl rfl rfl rfl rfl rfl ⟨rfl, rfl, rfl, rfl, rfl⟩ rfl rfl rfl rfl rfl (by kernel_rfl) Try.func4 (by kernel_rfl)
    (of_decide_eq_true (by kernel_rfl)) (by unfold Func.isWrapper; first | (rw [if_pos (by decide +kernel)]; kernel_rfl) | (rw [if_neg (by decide +kernel)]; exact ⟨rfl, rfl⟩))
    (fun os started H enc _ => lifted os started H enc)

/-- ████ THE STATEMENT ████ -/
theorem proved : Rows.MoneySmallSaid :=
  over
end Go.Proofs.Ytdhgneaolohgkaa.moneySmall

