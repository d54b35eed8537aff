/- P1.2: half of any amount, rounded in each of the three ways, is what the document says; for every int64. No conditions. -/
import Derived.Test.YtdhgneaolohgkaaMnD
namespace Go.Proofs.Ytdhgneaolohgkaa.moneyHalves
open Go.ChangeShapes Go.WideShapes Go.ChangeAt Go.RowKit
set_option linter.unusedVariables false

theorem own : ownKnob Try.prog.godebug = none := by kernel_rfl

theorem even (x : Int) (h : x % 2 = 0) : Mn.rnd 1 (x / 2) (x % 2) 2 = x - x / 2 ∧ Mn.rnd 2 (x / 2) (x % 2) 2 = x / 2 ∧ Mn.rnd 2 (x / 2) (5000 * (x % 2)) 10000 = x / 2 := by
  simp [Mn.rnd, h]
  omega
theorem odd (x : Int) (h : x % 2 = 1) : Mn.rnd 1 (x / 2) (x % 2) 2 = x - x / 2 ∧ Mn.rnd 2 (x / 2) (x % 2) 2 = x / 2 + x / 2 % 2 ∧ Mn.rnd 2 (x / 2) (5000 * (x % 2)) 10000 = x / 2 + x / 2 % 2 := by
  simp [Mn.rnd, h]
  omega

set_option maxHeartbeats 2000000 in
theorem walk (a0 : Int) (w0 : (Lit.int .i64 a0).wf = true) (w : World) :
    Calls Try.prog 5 #[.int .i64 a0] w fun e w' => e = .returned (.bool true) ∧ Below w.heap.size w w' := by
  go_enter Try.func5, Try.ntmps5
  go_wp2_with fail
  refine (Mn.mod64_any _ _ _ (by omega) (by omega)).mono ?_
  rintro e w1 ⟨⟨x, x0, x1, rfl⟩, rfl⟩
  have hx : x ≤ 100000000000000 := by omega
  clear x1
  have k1 := Mn.need_small x 1 2 (by omega) (by omega) (by omega) (by omega)
  have k2 := Mn.need_small x 5000 10000 (by omega) (by omega) (by omega) (by omega)
  have n1 := Lib.hid (Mn.times_eq 0 x 1 2 (x / 2) (x % 2) (x / 2) (by omega) (by omega) (by omega) (by simp [Mn.rnd]) (by omega))
  by_cases hp : x % 2 = 0
  · obtain ⟨g1, g2, g3⟩ := even x (by omega)
    have n2 := Lib.hid (Mn.times_eq 1 x 1 2 (x / 2) (x % 2) (x - x / 2) (by omega) (by omega) (by omega) g1 (by omega))
    have n3 := Lib.hid (Mn.times_eq 2 x 1 2 (x / 2) (x % 2) (x / 2) (by omega) (by omega) (by omega) (g2.trans (by omega)) (by omega))
    have n4 := Lib.hid (Mn.times_eq 2 x 5000 10000 (x / 2) (5000 * (x % 2)) (x / 2) (by omega) (by omega) (by omega) (g3.trans (by omega)) (by omega))
    have e1 : (x % 2 == 0) = true := by simp [hp]
    clear g1 g2 g3 hp
    go_wp2_with fail
    refine (Mn.times_is 0 x 1 2 _ _ _ x0 hx (by omega) (by omega) (by omega) (by omega) (by omega) (by omega) k1 n1.out).mono ?_
    rintro e w2 ⟨rfl, hb1⟩
    go_wp2_with fail
    refine (Mn.times_is 1 x 1 2 _ _ _ x0 hx (by omega) (by omega) (by omega) (by omega) (by omega) (by omega) k1 n2.out).mono ?_
    rintro e w3 ⟨rfl, hb2⟩
    go_wp2_with fail
    refine (Mn.times_is 2 x 1 2 _ _ _ x0 hx (by omega) (by omega) (by omega) (by omega) (by omega) (by omega) k1 n3.out).mono ?_
    rintro e w4 ⟨rfl, hb3⟩
    go_wp2_with fail
    refine (Mn.times_is 2 x 5000 10000 _ _ _ x0 hx (by omega) (by omega) (by omega) (by omega) (by omega) (by omega) k2 n4.out).mono ?_
    rintro e w5 ⟨rfl, hb4⟩
    go_wp2_with fail
    refine (Mn.awake1 _).mono ?_
    rintro e w6 ⟨rfl, hb5⟩
    go_wp2
    all_goals
      go_ret
      exact ⟨rfl, Hk.andThen (Hk.andThen (Hk.andThen (Hk.andThen hb1 hb2) hb3) hb4) hb5⟩
  · by_cases hq : x / 2 % 2 = 0
    · obtain ⟨g1, g2, g3⟩ := odd x (by omega)
      have n2 := Lib.hid (Mn.times_eq 1 x 1 2 (x / 2) (x % 2) (x - x / 2) (by omega) (by omega) (by omega) g1 (by omega))
      have n3 := Lib.hid (Mn.times_eq 2 x 1 2 (x / 2) (x % 2) (x / 2) (by omega) (by omega) (by omega) (g2.trans (by omega)) (by omega))
      have n4 := Lib.hid (Mn.times_eq 2 x 5000 10000 (x / 2) (5000 * (x % 2)) (x / 2) (by omega) (by omega) (by omega) (g3.trans (by omega)) (by omega))
      have e1 : (x % 2 == 0) = false := by simp [hp]
      have e2 : (x % 2 == 1) = true := by simp; omega
      have e3 : (x / 2 % 2 == 0) = true := by simp [hq]
      clear g1 g2 g3 hp hq
      go_wp2_with fail
      refine (Mn.times_is 0 x 1 2 _ _ _ x0 hx (by omega) (by omega) (by omega) (by omega) (by omega) (by omega) k1 n1.out).mono ?_
      rintro e w2 ⟨rfl, hb1⟩
      go_wp2_with fail
      refine (Mn.times_is 1 x 1 2 _ _ _ x0 hx (by omega) (by omega) (by omega) (by omega) (by omega) (by omega) k1 n2.out).mono ?_
      rintro e w3 ⟨rfl, hb2⟩
      go_wp2_with fail
      refine (Mn.times_is 2 x 1 2 _ _ _ x0 hx (by omega) (by omega) (by omega) (by omega) (by omega) (by omega) k1 n3.out).mono ?_
      rintro e w4 ⟨rfl, hb3⟩
      go_wp2_with fail
      refine (Mn.times_is 2 x 5000 10000 _ _ _ x0 hx (by omega) (by omega) (by omega) (by omega) (by omega) (by omega) k2 n4.out).mono ?_
      rintro e w5 ⟨rfl, hb4⟩
      go_wp2_with fail
      refine (Mn.awake1 _).mono ?_
      rintro e w6 ⟨rfl, hb5⟩
      go_wp2
      all_goals
        go_ret
        exact ⟨rfl, Hk.andThen (Hk.andThen (Hk.andThen (Hk.andThen hb1 hb2) hb3) hb4) hb5⟩
    · obtain ⟨g1, g2, g3⟩ := odd x (by omega)
      have n2 := Lib.hid (Mn.times_eq 1 x 1 2 (x / 2) (x % 2) (x - x / 2) (by omega) (by omega) (by omega) g1 (by omega))
      have n3 := Lib.hid (Mn.times_eq 2 x 1 2 (x / 2) (x % 2) (x / 2 + 1) (by omega) (by omega) (by omega) (g2.trans (by omega)) (by omega))
      have n4 := Lib.hid (Mn.times_eq 2 x 5000 10000 (x / 2) (5000 * (x % 2)) (x / 2 + 1) (by omega) (by omega) (by omega) (g3.trans (by omega)) (by omega))
      have e1 : (x % 2 == 0) = false := by simp [hp]
      have e2 : (x % 2 == 1) = true := by simp; omega
      have e3 : ((x / 2 + 1) % 2 == 0) = true := by simp; omega
      have e4 : (x / 2 + 1 == x / 2) = false := by simp; omega
      have e5 : (x / 2 + 1 == x - x / 2) = true := by simp; omega
      clear g1 g2 g3 hp hq
      go_wp2_with fail
      refine (Mn.times_is 0 x 1 2 _ _ _ x0 hx (by omega) (by omega) (by omega) (by omega) (by omega) (by omega) k1 n1.out).mono ?_
      rintro e w2 ⟨rfl, hb1⟩
      go_wp2_with fail
      refine (Mn.times_is 1 x 1 2 _ _ _ x0 hx (by omega) (by omega) (by omega) (by omega) (by omega) (by omega) k1 n2.out).mono ?_
      rintro e w3 ⟨rfl, hb2⟩
      go_wp2_with fail
      refine (Mn.times_is 2 x 1 2 _ _ _ x0 hx (by omega) (by omega) (by omega) (by omega) (by omega) (by omega) k1 n3.out).mono ?_
      rintro e w4 ⟨rfl, hb3⟩
      go_wp2_with fail
      refine (Mn.times_is 2 x 5000 10000 _ _ _ x0 hx (by omega) (by omega) (by omega) (by omega) (by omega) (by omega) k2 n4.out).mono ?_
      rintro e w5 ⟨rfl, hb4⟩
      go_wp2_with fail
      refine (Mn.awake1 _).mono ?_
      rintro e w6 ⟨rfl, hb5⟩
      go_wp2
      all_goals
        go_ret
        exact ⟨rfl, Hk.andThen (Hk.andThen (Hk.andThen (Hk.andThen hb1 hb2) hb3) hb4) hb5⟩

set_option maxRecDepth 100000 in
theorem lifted (os : Os) (started : os.Started) (H : Type) (enc : TypeId × Value → H) :
    ReturnsInHanded {} Try.checked os 5 .any (Rows.moneyHalvesSpec.pre6 enc Try.prog Try.f5 Rows.moneyHalvesRow.domain false) (Rows.moneyHalvesSpec.post enc Try.prog Try.f5 false true false false) := by
  refine returnsInHanded_of_change (C := Try.checked) own started (by kernel_rfl) Try.func5
    (ChangeSpec.witness6 (enc := enc) (C := Try.checked) false ⟨#[], #[.int .i64 0], []⟩ 8 (by kernel_rfl) (by kernel_rfl) (by kernel_rfl) (by kernel_rfl)) ?_
  intro W base args ds gs before hval0 hW hcnd _
  have hval : ∀ (j : Nat) t v, Try.f5.params[j]? = some t → args[j]? = some v → Value.okWide Try.prog W .any base t v := hval0
  have hW' := hW
  obtain ⟨p, q, hA0, hV, rfl, hfz, hnd⟩ := hW
  have hA : DataW.TrodAll enc Try.prog W 0 (fun _ => true) true Try.f5.params.toList args.toList ds p := hA0
  rw [Try.params5] at hA hval
  obtain ⟨v0, vs0, d0, ds0, p0, q0, hargs, rfl, rfl, h0, r0⟩ := trodAll_cons hA
  obtain ⟨rfl, rfl, rfl⟩ := trodAll_nil r0
  obtain rfl : args = #[v0] := by cases args; simp_all
  obtain ⟨rfl, rfl⟩ := trodVars_none hV
  obtain ⟨a0, rfl, rfl, rfl, w0⟩ := open_int Try.underlying2 (hval 0 2 v0 rfl rfl) h0
  clear hA0 hval0
  simp only [List.append_nil] at hW'
  refine (walk a0 w0 W).mono fun e W' ⟨he, hb⟩ => ?_
  subst he
  exact ⟨_, rfl, Hk.closeRow (pa := []) (pv := []) hW' hb rfl (fun _ _ _ => (trodAll_cons_mk (shut_bool Try.underlying4 _) trodAll_mk0)) (fun sp _ => (trodAll_cons_mk (shut_int Try.underlying2 w0) trodAll_mk0)) (fun _ _ => rfl) (ok_one (by kernel_rfl) rfl (okWide_bool_mk Try.underlying4 _))⟩

theorem over : Rows.moneyHalvesRow.holds Try.pinned (OpenSpec.ofChange Rows.moneyHalvesSpec) :=
  OpenClaim.holds_of_wide 5 Try.f5 rfl rfl rfl rfl rfl rfl rfl ⟨rfl, rfl, rfl, rfl, rfl⟩ rfl rfl rfl rfl rfl (by kernel_rfl) Try.func5 (by kernel_rfl)
    (of_decide_eq_true (by kernel_rfl)) (by unfold Func.isWrapper; first | (rw [if_pos (by decide +kernel)]; kernel_rfl) | (rw [if_neg (by decide +kernel)]; exact ⟨rfl, rfl⟩))
    (fun os started H enc _ => lifted os started H enc)

/-- ████ THE STATEMENT ████ -/
theorem proved : Rows.MoneyHalvesSaid :=
  over
end Go.Proofs.Ytdhgneaolohgkaa.moneyHalves

