/- P1.1, P1.2: whether any number is right, and what Add, Sub, Mul, Times and Rate answer of any, is the document's answer; for every int64 and int. No conditions. -/
import Derived.Test.YtdhgneaolohgkaaRfD
import Derived.Test.YtdhgneaolohgkaaKitB
namespace Go.Proofs.Ytdhgneaolohgkaa.moneyAll
open Go.ChangeShapes Go.WideShapes Go.ChangeAt Go.RowKit
set_option linter.unusedVariables false

theorem own : ownKnob Try.prog.godebug = none := by kernel_rfl

def nearV (v : Int) (b : Bool) : Int := if b then v else wrap64 ((IntKind.u64.wrap v).tmod 100000000000002)

theorem mod64_at (v : Int) (w : World) : Calls Try.prog 23 #[.int .i64 v, .int .i64 100000000000002] w fun e w' => e = .returned (.int .i64 (wrap64 ((IntKind.u64.wrap v).tmod 100000000000002))) ∧ w = w' := by
  go_enter Try.func23, Try.ntmps23
  go_wp2
  go_ret
  exact ⟨rfl, rfl⟩

theorem near_any (v : Int) (b : Bool) (w : World) : Calls Try.prog 9 #[.int .i64 v, .bool b] w fun e w' => e = .returned (.int .i64 (nearV v b)) ∧ w' = w := by
  unfold nearV
  cases b with
  | true =>
    go_enter Try.func9, Try.ntmps9
    go_wp2
    go_ret
    exact ⟨rfl, rfl⟩
  | false =>
    go_enter Try.func9, Try.ntmps9
    go_wp2_with fail
    refine (mod64_at _ _).mono ?_
    rintro e w' ⟨rfl, rfl⟩
    go_wp2
    go_ret
    exact ⟨rfl, rfl⟩

set_option maxRecDepth 100000 in
set_option maxHeartbeats 4000000 in
theorem walk (a0 a1 a2 a3 : Int) (x y z : Bool) (w : World) :
    Calls Try.prog 3 #[.int .i64 a0, .int .i64 a1, .int .i64 a2, .int .i64 a3, .agg #[.bool x, .bool y, .bool z]] w fun e w' => e = .returned (.bool true) ∧ Below w.heap.size w w' := by
  go_enter Try.func3, Try.ntmps3
  go_wp2_with fail
  go_quiet ((go_at_call 9; exact Calls.quiet_of_same (near_any _ _ _)))
  generalize nearV a0 x = a
  generalize nearV a1 y = b
  generalize nearV a2 z = c
  have HA := Lib.hid (And.intro (fun w => Rf.m_add a b w) (fun w => Rf.r_add a b w))
  generalize Rf.addR a b = pA at HA
  obtain ⟨vA, eA⟩ := pA
  have HS := Lib.hid (And.intro (fun w => Rf.m_sub a b w) (fun w => Rf.r_sub a b w))
  generalize Rf.subR a b = pS at HS
  obtain ⟨vS, eS⟩ := pS
  have HM := Lib.hid (And.intro (fun w => Rf.m_mul a b w) (fun w => Rf.r_mul a b w))
  generalize Rf.timesR 0 a b 1 = pM at HM
  obtain ⟨vM, eM⟩ := pM
  have HT := Lib.hid (And.intro (fun w => Rf.m_times a3 a b c w) (fun w => Rf.r_times a3 a b c w))
  generalize Rf.timesR a3 a b c = pT at HT
  obtain ⟨vT, eT⟩ := pT
  have HR := Lib.hid (And.intro (fun w => Rf.m_rate a3 a b w) (fun w => Rf.r_rate a3 a b w))
  generalize Rf.rateR a3 a b = pR at HR
  obtain ⟨vR, eR⟩ := pR
  have HK := Lib.hid (And.intro (fun w => Rf.m_right a w) (fun w => Rf.r_right a w))
  generalize Rf.okB a = ok at HK
  go_wp2_with fail
  refine (HA.out.1 _).mono ?_
  rintro e u1 ⟨he, rfl⟩
  obtain rfl : e = .returned (.tuple #[.int .i64 vA, .int .i64 eA]) := he
  go_wp2_with fail
  refine (HS.out.1 _).mono ?_
  rintro e u2 ⟨he, rfl⟩
  obtain rfl : e = .returned (.tuple #[.int .i64 vS, .int .i64 eS]) := he
  go_wp2_with fail
  refine (HM.out.1 _).mono ?_
  rintro e u3 ⟨he, hb3⟩
  obtain rfl : e = .returned (.tuple #[.int .i64 vM, .int .i64 eM]) := he
  go_wp2_with fail
  refine (HT.out.1 _).mono ?_
  rintro e u4 ⟨he, hb4⟩
  obtain rfl : e = .returned (.tuple #[.int .i64 vT, .int .i64 eT]) := he
  go_wp2_with fail
  refine (HR.out.1 _).mono ?_
  rintro e u5 ⟨he, hb5⟩
  obtain rfl : e = .returned (.tuple #[.int .i64 vR, .int .i64 eR]) := he
  go_wp2_with fail
  refine (HA.out.2 _).mono ?_
  rintro e u6 ⟨he, rfl⟩
  obtain rfl : e = .returned (.tuple #[.int .i64 vA, .int .i64 eA]) := he
  go_wp2_with fail
  refine (HS.out.2 _).mono ?_
  rintro e u7 ⟨he, rfl⟩
  obtain rfl : e = .returned (.tuple #[.int .i64 vS, .int .i64 eS]) := he
  go_wp2_with fail
  refine (HM.out.2 _).mono ?_
  rintro e u8 ⟨he, hb8⟩
  obtain rfl : e = .returned (.tuple #[.int .i64 vM, .int .i64 eM]) := he
  go_wp2_with fail
  refine (HT.out.2 _).mono ?_
  rintro e u9 ⟨he, hb9⟩
  obtain rfl : e = .returned (.tuple #[.int .i64 vT, .int .i64 eT]) := he
  go_wp2_with fail
  refine (HR.out.2 _).mono ?_
  rintro e u10 ⟨he, hb10⟩
  obtain rfl : e = .returned (.tuple #[.int .i64 vR, .int .i64 eR]) := he
  go_wp2_with fail
  refine (Mn.awake1 _).mono ?_
  rintro e u11 ⟨rfl, hb11⟩
  go_wp2_with fail
  refine (HK.out.1 _).mono ?_
  rintro e u12 ⟨rfl, rfl⟩
  go_wp2_with fail
  refine (HK.out.2 _).mono ?_
  rintro e u13 ⟨rfl, rfl⟩
  go_wp2
  all_goals
    go_ret
    exact ⟨rfl, Hk.andThen (Hk.andThen (Hk.andThen (Hk.andThen (Hk.andThen (Hk.andThen (Hk.andThen (Hk.andThen (((Below.refl _ _).alloc (Nat.le_refl _) _)) (Mn.belowDrewN _ _ _)) hb3) hb4) hb5) hb8) hb9) hb10) hb11⟩

set_option maxRecDepth 100000 in
theorem lifted (os : Os) (started : os.Started) (H : Type) (enc : TypeId × Value → H) :
    ReturnsInHanded {} Try.checked os 3 .any (Rows.moneyAllSpec.pre6 enc Try.prog Try.f3 Rows.moneyAllRow.domain false) (Rows.moneyAllSpec.post enc Try.prog Try.f3 false true false false) := by
  refine returnsInHanded_of_change (C := Try.checked) own started (by kernel_rfl) Try.func3
    (ChangeSpec.witness6 (enc := enc) (C := Try.checked) false ⟨#[], #[.int .i64 0, .int .i64 0, .int .i64 0, .int .i64 0, .agg #[.bool false, .bool false, .bool false]], []⟩ 8 (by kernel_rfl) (by kernel_rfl) (by kernel_rfl) (by kernel_rfl)) ?_
  intro W base args ds gs before hval0 hW hcnd _
  have hval : ∀ (j : Nat) t v, Try.f3.params[j]? = some t → args[j]? = some v → Value.okWide Try.prog W .any base t v := hval0
  have hW' := hW
  obtain ⟨p, q, hA0, hV, rfl, hfz, hnd⟩ := hW
  have hA : DataW.TrodAll enc Try.prog W 0 (fun _ => true) true Try.f3.params.toList args.toList ds p := hA0
  rw [Try.params3] at hA hval
  obtain ⟨v0, vs0, d0, ds0, p0, q0, hargs, rfl, rfl, h0, r0⟩ := trodAll_cons hA
  obtain ⟨v1, vs1, d1, ds1, p1, q1, rfl, rfl, rfl, h1, r1⟩ := trodAll_cons r0
  obtain ⟨v2, vs2, d2, ds2, p2, q2, rfl, rfl, rfl, h2, r2⟩ := trodAll_cons r1
  obtain ⟨v3, vs3, d3, ds3, p3, q3, rfl, rfl, rfl, h3, r3⟩ := trodAll_cons r2
  obtain ⟨v4, vs4, d4, ds4, p4, q4, rfl, rfl, rfl, h4, r4⟩ := trodAll_cons r3
  obtain ⟨rfl, rfl, rfl⟩ := trodAll_nil r4
  obtain rfl : args = #[v0, v1, v2, v3, v4] := by cases args; simp_all
  obtain ⟨a0, rfl, _, _, _⟩ := open_int Try.underlying2 (hval 0 2 v0 rfl rfl) h0
  obtain ⟨a1, rfl, _, _, _⟩ := open_int Try.underlying2 (hval 1 2 v1 rfl rfl) h1
  obtain ⟨a2, rfl, _, _, _⟩ := open_int Try.underlying2 (hval 2 2 v2 rfl rfl) h2
  obtain ⟨a3, rfl, _, _, _⟩ := open_int Try.underlying3 (hval 3 3 v3 rfl rfl) h3
  obtain ⟨x, y, z, rfl⟩ := Hk.open_bools3 Try.underlying22 Try.underlying4 (by kernel_rfl) (by kernel_rfl) (hval 4 22 v4 rfl rfl) h4
  refine (walk a0 a1 a2 a3 x y z W).mono fun e W' ⟨he, hb⟩ => ?_
  subst he
  exact ⟨_, rfl, Hk.closeLaw (tb := 4) (by kernel_rfl) (by kernel_rfl) rfl rfl rfl Try.underlying4 hW' hb⟩

theorem over : Rows.moneyAllRow.holds Try.pinned (OpenSpec.ofChange Rows.moneyAllSpec) :=
  OpenClaim.holds_of_wide 3 Try.f3 rfl rfl rfl rfl rfl rfl rfl ⟨rfl, rfl, rfl, rfl, rfl⟩ rfl rfl rfl rfl rfl (by kernel_rfl) Try.func3 (by kernel_rfl)
    (of_decide_eq_true (by kernel_rfl)) (by unfold Func.isWrapper; first | (rw [if_pos (by decide +kernel)]; kernel_rfl) | (rw [if_neg (by decide +kernel)]; exact ⟨rfl, rfl⟩))
    (fun os started H enc _ => lifted os started H enc)

/-- The statement. -/
theorem proved : Rows.MoneyAllSaid :=
  over
end Go.Proofs.Ytdhgneaolohgkaa.moneyAll
