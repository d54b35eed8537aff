/- P1.1: sums and products just at the greatest amount, and one above, and differences at nothing; for every int64. No conditions. -/
import Derived.Test.YtdhgneaolohgkaaMnD
namespace Go.Proofs.Ytdhgneaolohgkaa.moneyEdges
open Go.ChangeShapes Go.WideShapes Go.ChangeAt Go.RowKit
set_option linter.unusedVariables false

theorem own : ownKnob Try.prog.godebug = none := by kernel_rfl

theorem prod_top (n : Int) (n1 : 1 ≤ n) : 100000000000000 / n * n ≤ 100000000000000 ∧ 0 ≤ 100000000000000 / n ∧ 100000000000000 < (100000000000000 / n + 1) * n := by
  refine ⟨Int.ediv_mul_le _ (by omega), Int.ediv_nonneg (by omega) (by omega), Int.lt_ediv_add_one_mul_self _ (by omega)⟩

theorem times_over (x y : Int) (h : 100000000000000 < x * y) : Mn.timesV 0 x y 1 = 0 ∧ Mn.timesE 0 x y 1 = 5 := by
  unfold Mn.timesV Mn.timesE
  simp [Mn.rnd]
  omega

set_option maxRecDepth 100000 in
set_option maxHeartbeats 8000000 in
theorem walk (a0 a1 : Int) (w0 : (Lit.int .i64 a0).wf = true) (w1 : (Lit.int .i64 a1).wf = true) (w : World) :
    Calls Try.prog 7 #[.int .i64 a0, .int .i64 a1] w fun e w' => e = .returned (.bool true) ∧ Below w.heap.size w w' := by
  clear w0 w1
  go_enter Try.func7, Try.ntmps7
  go_wp2_with fail
  refine (Mn.mod64_any _ _ _ (by omega) (by omega)).mono ?_
  rintro e w1 ⟨⟨x, x0, x1, rfl⟩, rfl⟩
  go_wp2_with fail
  refine (Mn.mod64_any _ _ _ (by omega) (by omega)).mono ?_
  rintro e w1 ⟨⟨z, z0, z1, rfl⟩, rfl⟩
  go_wp2_with fail
  obtain ⟨n, hn⟩ : ∃ n, n = 1 + z := ⟨_, rfl⟩
  have n0 : 1 ≤ n := by omega
  have n1 : n ≤ 1048576 := by omega
  rw [← hn]
  clear hn z0 z1
  obtain ⟨t1, t2, t3⟩ := prod_top n n0
  have t4 : (100000000000000 / n + 1) * n = 100000000000000 / n * n + n := by rw [Int.add_mul, Int.one_mul]
  have t5 : 100000000000000 / n ≤ 100000000000000 := Int.ediv_le_self _ (by omega)
  have t6 : 0 ≤ 100000000000000 / n * n := Int.mul_nonneg t2 (by omega)
  have P1 := Lib.hid (fun w => Mn.times_is 0 (100000000000000 / n) n 1 (100000000000000 / n * n) 0 w t2 t5 (by omega) (by omega) (by omega) (by omega) (by omega) (by omega) (Mn.need_small _ n 1 t6 (by omega) (by omega) (by omega))
    (Mn.times_eq 0 (100000000000000 / n) n 1 (100000000000000 / n * n) 0 _ (by omega) (by omega) (by omega) (by simp [Mn.rnd]) t1))
  by_cases hx0 : x = 0
  · by_cases hn1 : n = 1
    · have P2 := Lib.hid (fun w => Mn.times_bad 0 (100000000000000 / n + 1) n 1 w (by rw [hn1]; omega))
      have g1 : (n == 1) = true := by simp [hn1]
      clear hn1
      have g2 : (x == 0) = true := by simp; omega
      have g3 : (x == 100000000000000) = false := by simp; omega
      have g4 : x ≤ 0 := by omega
      clear t3 t4 hx0
      go_wp2_with fail
      refine (Mn.add_ok x _ _ x0 (by omega) (by omega) (by omega) (by omega)).mono ?_
      rintro e v1 ⟨rfl, rfl⟩
      rw [show x + (100000000000000 - x) = 100000000000000 from by omega]
      go_wp2_with fail
      refine (Mn.add_bad x _ _ (by omega)).mono ?_
      rintro e v2 ⟨rfl, rfl⟩
      go_wp2_with fail
      refine (Mn.mul_any _ n _ _ _ P1).mono ?_
      rintro e v3 ⟨rfl, hb1⟩
      go_wp2_with fail
      refine (Mn.mul_any _ n _ _ _ P2).mono ?_
      rintro e v4 ⟨rfl, hb2⟩
      go_wp2_with fail
      refine (Mn.sub_ok x x _ x0 (by omega) x0 (by omega) (by omega)).mono ?_
      rintro e v5 ⟨rfl, rfl⟩
      rw [show x - x = 0 from by omega]
      go_wp2_with fail
      refine (Mn.sub_over x _ _ x0 (by omega) (by omega) (by omega) (by omega)).mono ?_
      rintro e v6 ⟨rfl, rfl⟩
      go_wp2_with fail
      refine (Mn.awake1 _).mono ?_
      rintro e v7 ⟨rfl, hb3⟩
      go_wp2
      all_goals
        go_ret
        exact ⟨rfl, Hk.andThen (Hk.andThen hb1 hb2) hb3⟩
    · have t7 : 100000000000000 / n < 100000000000000 := Int.ediv_lt_self_of_pos_of_ne_one (by omega) (by omega)
      have P2 := Lib.hid (fun w => Mn.times_is 0 (100000000000000 / n + 1) n 1 0 5 w (by omega) (by omega) (by omega) (by omega) (by omega) (by omega) (by omega) (by omega) (Mn.need_small _ n 1 (by omega) (by omega) (by omega) (by omega)) (times_over _ _ t3))
      have g1 : (n == 1) = false := by simp [hn1]
      clear hn1 t7
      have g2 : (x == 0) = true := by simp; omega
      have g3 : (x == 100000000000000) = false := by simp; omega
      have g4 : x ≤ 0 := by omega
      clear t3 t4 hx0
      go_wp2_with fail
      refine (Mn.add_ok x _ _ x0 (by omega) (by omega) (by omega) (by omega)).mono ?_
      rintro e v1 ⟨rfl, rfl⟩
      rw [show x + (100000000000000 - x) = 100000000000000 from by omega]
      go_wp2_with fail
      refine (Mn.add_bad x _ _ (by omega)).mono ?_
      rintro e v2 ⟨rfl, rfl⟩
      go_wp2_with fail
      refine (Mn.mul_any _ n _ _ _ P1).mono ?_
      rintro e v3 ⟨rfl, hb1⟩
      go_wp2_with fail
      refine (Mn.mul_any _ n _ _ _ P2).mono ?_
      rintro e v4 ⟨rfl, hb2⟩
      go_wp2_with fail
      refine (Mn.sub_ok x x _ x0 (by omega) x0 (by omega) (by omega)).mono ?_
      rintro e v5 ⟨rfl, rfl⟩
      rw [show x - x = 0 from by omega]
      go_wp2_with fail
      refine (Mn.sub_over x _ _ x0 (by omega) (by omega) (by omega) (by omega)).mono ?_
      rintro e v6 ⟨rfl, rfl⟩
      go_wp2_with fail
      refine (Mn.awake1 _).mono ?_
      rintro e v7 ⟨rfl, hb3⟩
      go_wp2
      all_goals
        go_ret
        exact ⟨rfl, Hk.andThen (Hk.andThen hb1 hb2) hb3⟩
  by_cases hx1 : x = 100000000000000
  · by_cases hn1 : n = 1
    · have P2 := Lib.hid (fun w => Mn.times_bad 0 (100000000000000 / n + 1) n 1 w (by rw [hn1]; omega))
      have g1 : (n == 1) = true := by simp [hn1]
      clear hn1
      have g2 : (x == 0) = false := by simp; omega
      have g3 : (x == 100000000000000) = true := by simp; omega
      have g4 : 100000000000000 ≤ x := by omega
      clear t3 t4 hx0 hx1
      go_wp2_with fail
      refine (Mn.add_ok x _ _ x0 (by omega) (by omega) (by omega) (by omega)).mono ?_
      rintro e v1 ⟨rfl, rfl⟩
      rw [show x + (100000000000000 - x) = 100000000000000 from by omega]
      go_wp2_with fail
      refine (Mn.add_over x _ _ x0 (by omega) (by omega) (by omega) (by omega)).mono ?_
      rintro e v2 ⟨rfl, rfl⟩
      go_wp2_with fail
      refine (Mn.mul_any _ n _ _ _ P1).mono ?_
      rintro e v3 ⟨rfl, hb1⟩
      go_wp2_with fail
      refine (Mn.mul_any _ n _ _ _ P2).mono ?_
      rintro e v4 ⟨rfl, hb2⟩
      go_wp2_with fail
      refine (Mn.sub_ok x x _ x0 (by omega) x0 (by omega) (by omega)).mono ?_
      rintro e v5 ⟨rfl, rfl⟩
      rw [show x - x = 0 from by omega]
      go_wp2_with fail
      refine (Mn.sub_bad x _ _ (by omega)).mono ?_
      rintro e v6 ⟨rfl, rfl⟩
      go_wp2_with fail
      refine (Mn.awake1 _).mono ?_
      rintro e v7 ⟨rfl, hb3⟩
      go_wp2
      all_goals
        go_ret
        exact ⟨rfl, Hk.andThen (Hk.andThen hb1 hb2) hb3⟩
    · have t7 : 100000000000000 / n < 100000000000000 := Int.ediv_lt_self_of_pos_of_ne_one (by omega) (by omega)
      have P2 := Lib.hid (fun w => Mn.times_is 0 (100000000000000 / n + 1) n 1 0 5 w (by omega) (by omega) (by omega) (by omega) (by omega) (by omega) (by omega) (by omega) (Mn.need_small _ n 1 (by omega) (by omega) (by omega) (by omega)) (times_over _ _ t3))
      have g1 : (n == 1) = false := by simp [hn1]
      clear hn1 t7
      have g2 : (x == 0) = false := by simp; omega
      have g3 : (x == 100000000000000) = true := by simp; omega
      have g4 : 100000000000000 ≤ x := by omega
      clear t3 t4 hx0 hx1
      go_wp2_with fail
      refine (Mn.add_ok x _ _ x0 (by omega) (by omega) (by omega) (by omega)).mono ?_
      rintro e v1 ⟨rfl, rfl⟩
      rw [show x + (100000000000000 - x) = 100000000000000 from by omega]
      go_wp2_with fail
      refine (Mn.add_over x _ _ x0 (by omega) (by omega) (by omega) (by omega)).mono ?_
      rintro e v2 ⟨rfl, rfl⟩
      go_wp2_with fail
      refine (Mn.mul_any _ n _ _ _ P1).mono ?_
      rintro e v3 ⟨rfl, hb1⟩
      go_wp2_with fail
      refine (Mn.mul_any _ n _ _ _ P2).mono ?_
      rintro e v4 ⟨rfl, hb2⟩
      go_wp2_with fail
      refine (Mn.sub_ok x x _ x0 (by omega) x0 (by omega) (by omega)).mono ?_
      rintro e v5 ⟨rfl, rfl⟩
      rw [show x - x = 0 from by omega]
      go_wp2_with fail
      refine (Mn.sub_bad x _ _ (by omega)).mono ?_
      rintro e v6 ⟨rfl, rfl⟩
      go_wp2_with fail
      refine (Mn.awake1 _).mono ?_
      rintro e v7 ⟨rfl, hb3⟩
      go_wp2
      all_goals
        go_ret
        exact ⟨rfl, Hk.andThen (Hk.andThen hb1 hb2) hb3⟩
  · by_cases hn1 : n = 1
    · have P2 := Lib.hid (fun w => Mn.times_bad 0 (100000000000000 / n + 1) n 1 w (by rw [hn1]; omega))
      have g1 : (n == 1) = true := by simp [hn1]
      clear hn1
      have g2 : (x == 0) = false := by simp; omega
      have g3 : (x == 100000000000000) = false := by simp; omega
      have g4 : 1 ≤ x := by omega
      have g5 : x ≤ 99999999999999 := by omega
      clear t3 t4 hx0 hx1
      go_wp2_with fail
      refine (Mn.add_ok x _ _ x0 (by omega) (by omega) (by omega) (by omega)).mono ?_
      rintro e v1 ⟨rfl, rfl⟩
      rw [show x + (100000000000000 - x) = 100000000000000 from by omega]
      go_wp2_with fail
      refine (Mn.add_over x _ _ x0 (by omega) (by omega) (by omega) (by omega)).mono ?_
      rintro e v2 ⟨rfl, rfl⟩
      go_wp2_with fail
      refine (Mn.mul_any _ n _ _ _ P1).mono ?_
      rintro e v3 ⟨rfl, hb1⟩
      go_wp2_with fail
      refine (Mn.mul_any _ n _ _ _ P2).mono ?_
      rintro e v4 ⟨rfl, hb2⟩
      go_wp2_with fail
      refine (Mn.sub_ok x x _ x0 (by omega) x0 (by omega) (by omega)).mono ?_
      rintro e v5 ⟨rfl, rfl⟩
      rw [show x - x = 0 from by omega]
      go_wp2_with fail
      refine (Mn.sub_over x _ _ x0 (by omega) (by omega) (by omega) (by omega)).mono ?_
      rintro e v6 ⟨rfl, rfl⟩
      go_wp2_with fail
      refine (Mn.awake1 _).mono ?_
      rintro e v7 ⟨rfl, hb3⟩
      go_wp2
      all_goals
        go_ret
        exact ⟨rfl, Hk.andThen (Hk.andThen hb1 hb2) hb3⟩
    · have t7 : 100000000000000 / n < 100000000000000 := Int.ediv_lt_self_of_pos_of_ne_one (by omega) (by omega)
      have P2 := Lib.hid (fun w => Mn.times_is 0 (100000000000000 / n + 1) n 1 0 5 w (by omega) (by omega) (by omega) (by omega) (by omega) (by omega) (by omega) (by omega) (Mn.need_small _ n 1 (by omega) (by omega) (by omega) (by omega)) (times_over _ _ t3))
      have g1 : (n == 1) = false := by simp [hn1]
      clear hn1 t7
      have g2 : (x == 0) = false := by simp; omega
      have g3 : (x == 100000000000000) = false := by simp; omega
      have g4 : 1 ≤ x := by omega
      have g5 : x ≤ 99999999999999 := by omega
      clear t3 t4 hx0 hx1
      go_wp2_with fail
      refine (Mn.add_ok x _ _ x0 (by omega) (by omega) (by omega) (by omega)).mono ?_
      rintro e v1 ⟨rfl, rfl⟩
      rw [show x + (100000000000000 - x) = 100000000000000 from by omega]
      go_wp2_with fail
      refine (Mn.add_over x _ _ x0 (by omega) (by omega) (by omega) (by omega)).mono ?_
      rintro e v2 ⟨rfl, rfl⟩
      go_wp2_with fail
      refine (Mn.mul_any _ n _ _ _ P1).mono ?_
      rintro e v3 ⟨rfl, hb1⟩
      go_wp2_with fail
      refine (Mn.mul_any _ n _ _ _ P2).mono ?_
      rintro e v4 ⟨rfl, hb2⟩
      go_wp2_with fail
      refine (Mn.sub_ok x x _ x0 (by omega) x0 (by omega) (by omega)).mono ?_
      rintro e v5 ⟨rfl, rfl⟩
      rw [show x - x = 0 from by omega]
      go_wp2_with fail
      refine (Mn.sub_over x _ _ x0 (by omega) (by omega) (by omega) (by omega)).mono ?_
      rintro e v6 ⟨rfl, rfl⟩
      go_wp2_with fail
      refine (Mn.awake1 _).mono ?_
      rintro e v7 ⟨rfl, hb3⟩
      go_wp2
      all_goals
        go_ret
        exact ⟨rfl, Hk.andThen (Hk.andThen hb1 hb2) hb3⟩

set_option maxRecDepth 100000 in
theorem lifted (os : Os) (started : os.Started) (H : Type) (enc : TypeId × Value → H) :
    ReturnsInHanded {} Try.checked os 7 .any (Rows.moneyEdgesSpec.pre6 enc Try.prog Try.f7 Rows.moneyEdgesRow.domain false) (Rows.moneyEdgesSpec.post enc Try.prog Try.f7 false true false false) := by
  refine returnsInHanded_of_change (C := Try.checked) own started (by kernel_rfl) Try.func7
    (ChangeSpec.witness6 (enc := enc) (C := Try.checked) false ⟨#[], #[.int .i64 0, .int .i64 0], []⟩ 8 (by kernel_rfl) (by kernel_rfl) (by kernel_rfl) (by kernel_rfl)) ?_
  intro W base args ds gs before hval0 hW hcnd _
  have hval : ∀ (j : Nat) t v, Try.f7.params[j]? = some t → args[j]? = some v → Value.okWide Try.prog W .any base t v := hval0
  have hW' := hW
  obtain ⟨p, q, hA0, hV, rfl, hfz, hnd⟩ := hW
  have hA : DataW.TrodAll enc Try.prog W 0 (fun _ => true) true Try.f7.params.toList args.toList ds p := hA0
  rw [Try.params7] at hA hval
  obtain ⟨v0, vs0, d0, ds0, p0, q0, hargs, rfl, rfl, h0, r0⟩ := trodAll_cons hA
  obtain ⟨v1, vs1, d1, ds1, p1, q1, rfl, rfl, rfl, h1, r1⟩ := trodAll_cons r0
  obtain ⟨rfl, rfl, rfl⟩ := trodAll_nil r1
  obtain rfl : args = #[v0, v1] := by cases args; simp_all
  obtain ⟨rfl, rfl⟩ := trodVars_none hV
  obtain ⟨a0, rfl, rfl, rfl, w0⟩ := open_int Try.underlying2 (hval 0 2 v0 rfl rfl) h0
  obtain ⟨a1, rfl, rfl, rfl, w1⟩ := open_int Try.underlying2 (hval 1 2 v1 rfl rfl) h1
  clear hA0 hval0
  simp only [List.append_nil] at hW'
  refine (walk a0 a1 w0 w1 W).mono fun e W' ⟨he, hb⟩ => ?_
  subst he
  exact ⟨_, rfl, Hk.closeRow (pa := []) (pv := []) hW' hb rfl (fun _ _ _ => (trodAll_cons_mk (shut_bool Try.underlying4 _) trodAll_mk0)) (fun sp _ => (trodAll_cons_mk (shut_int Try.underlying2 w0) (trodAll_cons_mk (shut_int Try.underlying2 w1) trodAll_mk0))) (fun _ _ => rfl) (ok_one (by kernel_rfl) rfl (okWide_bool_mk Try.underlying4 _))⟩

theorem over : Rows.moneyEdgesRow.holds Try.pinned (OpenSpec.ofChange Rows.moneyEdgesSpec) :=
  OpenClaim.holds_of_wide 7 Try.f7 rfl rfl rfl rfl rfl rfl rfl ⟨rfl, rfl, rfl, rfl, rfl⟩ rfl rfl rfl rfl rfl (by kernel_rfl) Try.func7 (by kernel_rfl)
    (of_decide_eq_true (by kernel_rfl)) (by unfold Func.isWrapper; first | (rw [if_pos (by decide +kernel)]; kernel_rfl) | (rw [if_neg (by decide +kernel)]; exact ⟨rfl, rfl⟩))
    (fun os started H enc _ => lifted os started H enc)

/-- ████ THE STATEMENT ████ -/
theorem proved : Rows.MoneyEdgesSaid :=
  over
end Go.Proofs.Ytdhgneaolohgkaa.moneyEdges

