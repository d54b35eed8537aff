/- P1.2: so much of more is no less, at a greater rate it is no less, a whole is itself, and nothing is nothing; for every int64 and int. No conditions. -/
import Derived.Test.YtdhgneaolohgkaaMnD
namespace Go.Proofs.Ytdhgneaolohgkaa.moneyOrder
open Go.ChangeShapes Go.WideShapes Go.ChangeAt Go.RowKit
set_option linter.unusedVariables false

theorem own : ownKnob Try.prog.godebug = none := by kernel_rfl

theorem rnd_le_succ (way q r d : Int) : Mn.rnd way q r d ≤ q + 1 := by
  unfold Mn.rnd
  split
  · omega
  · split
    · omega
    · split <;> omega

theorem rnd_mono_same (way q r s d : Int) (h : r ≤ s) : Mn.rnd way q r d ≤ Mn.rnd way q s d := by
  unfold Mn.rnd
  by_cases h0 : way = 0
  · rw [if_pos h0, if_pos h0]; omega
  · rw [if_neg h0, if_neg h0]
    by_cases h1 : way = 2 ∧ 2 * r = d
    · rw [if_pos h1]
      by_cases h2 : way = 2 ∧ 2 * s = d
      · rw [if_pos h2]; omega
      · rw [if_neg h2, if_pos (by omega)]; omega
    · rw [if_neg h1]
      by_cases h2 : way = 2 ∧ 2 * s = d
      · rw [if_pos h2, if_neg (by omega)]; omega
      · rw [if_neg h2]
        split
        · rw [if_pos (by omega)]; omega
        · split <;> omega

theorem rnd_mono (way N M d : Int) (hd : 1 ≤ d) (hN : 0 ≤ N) (h : N ≤ M) : Mn.rnd way (N / d) (N % d) d ≤ Mn.rnd way (M / d) (M % d) d := by
  have h1 : N / d ≤ M / d := Int.ediv_le_ediv (by omega) h
  by_cases he : N / d = M / d
  · have h2 := Int.mul_ediv_add_emod N d
    have h3 := Int.mul_ediv_add_emod M d
    rw [he] at h2 ⊢
    exact rnd_mono_same _ _ _ _ _ (by omega)
  · have h2 := rnd_le_succ way (N / d) (N % d) d
    have h3 := Mn.rnd_ge way (M / d) (M % d) d (by have := Int.ediv_nonneg hN (show (0 : Int) ≤ d by omega); omega)
    omega

theorem whole (way x : Int) : Mn.rnd way (x * 10000 / 10000) (x * 10000 % 10000) 10000 = x := by
  have e1 : x * 10000 / 10000 = x := by omega
  have e2 : x * 10000 % 10000 = 0 := by omega
  rw [e1, e2]
  simp [Mn.rnd]

theorem rates (way x rate : Int) (x0 : 0 ≤ x) (x1 : x ≤ 100000000000000) (r0 : 0 ≤ rate) (r1 : rate ≤ 10000) :
    Mn.timesV way x rate 10000 = Mn.rnd way (x * rate / 10000) (x * rate % 10000) 10000 ∧ Mn.timesE way x rate 10000 = 0 ∧ Mn.rnd way (x * rate / 10000) (x * rate % 10000) 10000 ≤ x := by
  have h0 : 0 ≤ x * rate := Int.mul_nonneg x0 r0
  have h := rnd_mono way (x * rate) (x * 10000) 10000 (by omega) h0 (Int.mul_le_mul_of_nonneg_left r1 x0)
  rw [whole] at h
  unfold Mn.timesV Mn.timesE
  rw [if_pos (by omega), if_pos (by omega)]
  exact ⟨rfl, rfl, h⟩

set_option maxRecDepth 100000 in
set_option maxHeartbeats 8000000 in
theorem walk (a0 a1 a2 a3 a4 : Int) (w0 : (Lit.int .i64 a0).wf = true) (w1 : (Lit.int .i64 a1).wf = true) (w2 : (Lit.int .i64 a2).wf = true) (w3 : (Lit.int .i64 a3).wf = true) (w4 : (Lit.int .i64 a4).wf = true) (w : World) :
    Calls Try.prog 6 #[.int .i64 a0, .int .i64 a1, .int .i64 a2, .int .i64 a3, .int .i64 a4] w fun e w' => e = .returned (.bool true) ∧ Below w.heap.size w w' := by
  clear w0 w1 w2 w3 w4
  go_enter Try.func6, Try.ntmps6
  go_wp2_with fail
  refine (Mn.mod64_any _ _ _ (by omega) (by omega)).mono ?_
  rintro e w1 ⟨⟨x, x0, x1, rfl⟩, rfl⟩
  go_wp2_with fail
  refine (Mn.mod64_any _ _ _ (by omega) (by omega)).mono ?_
  rintro e w1 ⟨⟨y, y0, y1, rfl⟩, rfl⟩
  go_wp2_with fail
  refine (Mn.mod64_any _ _ _ (by omega) (by omega)).mono ?_
  rintro e w1 ⟨⟨r, r0, r1, rfl⟩, rfl⟩
  go_wp2_with fail
  refine (Mn.mod64_any _ _ _ (by omega) (by omega)).mono ?_
  rintro e w1 ⟨⟨s, s0, s1, rfl⟩, rfl⟩
  go_wp2_with fail
  refine (Mn.mod_any _ _ _ (by omega) (by omega)).mono ?_
  rintro e w1 ⟨⟨way, w0, w1, rfl⟩, rfl⟩
  have e4 := rates way x 10000 x0 (by omega) (by omega) (by omega)
  rw [whole] at e4
  have e5 : Mn.timesV way x 0 10000 = 0 ∧ Mn.timesE way x 0 10000 = 0 := Mn.times_eq way x 0 10000 0 0 0 (by omega) (by omega) (by omega) (by simp [Mn.rnd]) (by omega)
  have P4 := Lib.hid (And.intro e4.1 e4.2.1)
  have P5 := Lib.hid e5
  clear e4 e5
  by_cases hxy : x ≤ y
  · by_cases hrs : r ≤ s
    · obtain ⟨p1, q1, s1⟩ := rates way x r x0 (by omega) (by omega) (by omega)
      obtain ⟨p2, q2, s2⟩ := rates way y r y0 (by omega) (by omega) (by omega)
      obtain ⟨p3, q3, s3⟩ := rates way y s y0 (by omega) (by omega) (by omega)
      have m1 := rnd_mono way (x * r) (y * r) 10000 (by omega) (Int.mul_nonneg x0 r0) (Int.mul_le_mul_of_nonneg_right (by omega) r0)
      have m2 := rnd_mono way (y * r) (y * s) 10000 (by omega) (Int.mul_nonneg y0 r0) (Int.mul_le_mul_of_nonneg_left (by omega) y0)
      have g1 := Mn.rnd_ge way (x * r / 10000) (x * r % 10000) 10000 (Int.ediv_nonneg (Int.mul_nonneg x0 r0) (by omega))
      have g0 : 0 ≤ x * r / 10000 := Int.ediv_nonneg (Int.mul_nonneg x0 r0) (by omega)
      generalize Mn.rnd way (x * r / 10000) (x * r % 10000) 10000 = a at *
      generalize Mn.rnd way (y * r / 10000) (y * r % 10000) 10000 = b at *
      generalize Mn.rnd way (y * s / 10000) (y * s % 10000) 10000 = c at *
      have g2 : 0 ≤ a := by omega
      clear g1 g0
      have P1 := Lib.hid (And.intro p1 q1)
      have P2 := Lib.hid (And.intro p2 q2)
      have P3 := Lib.hid (And.intro p3 q3)
      clear p1 q1 p2 q2 p3 q3
      have u1 : (if x < y then y else x) = y := by split <;> omega
      have u2 : (if r < s then s else r) = s := by split <;> omega
      have u3 : (if y < x then y else x) = x := by split <;> omega
      have u4 : (if s < r then s else r) = r := by split <;> omega
      go_wp2_with fail
      refine (Mn.rate_is way x r a 0 _ x0 (by omega) r0 (by omega) w0 (by omega) P1.out).mono ?_
      rintro e v1 ⟨rfl, hb1⟩
      go_wp2_with fail
      refine (Mn.rate_is way y r b 0 _ y0 (by omega) r0 (by omega) w0 (by omega) P2.out).mono ?_
      rintro e v2 ⟨rfl, hb2⟩
      go_wp2_with fail
      refine (Mn.rate_is way y s c 0 _ y0 (by omega) s0 (by omega) w0 (by omega) P3.out).mono ?_
      rintro e v3 ⟨rfl, hb3⟩
      go_wp2_with fail
      refine (Mn.rate_is way x 10000 x 0 _ x0 (by omega) (by omega) (by omega) w0 (by omega) P4.out).mono ?_
      rintro e v4 ⟨rfl, hb4⟩
      go_wp2_with fail
      refine (Mn.rate_is way x 0 0 0 _ x0 (by omega) (by omega) (by omega) w0 (by omega) P5.out).mono ?_
      rintro e v5 ⟨rfl, hb5⟩
      go_wp2_with fail
      refine (Mn.awake1 _).mono ?_
      rintro e v6 ⟨rfl, hb6⟩
      go_wp2
      all_goals
        go_ret
        exact ⟨rfl, Hk.andThen (Hk.andThen (Hk.andThen (Hk.andThen (Hk.andThen hb1 hb2) hb3) hb4) hb5) hb6⟩
    · obtain ⟨p1, q1, s1⟩ := rates way x s x0 (by omega) (by omega) (by omega)
      obtain ⟨p2, q2, s2⟩ := rates way y s y0 (by omega) (by omega) (by omega)
      obtain ⟨p3, q3, s3⟩ := rates way y r y0 (by omega) (by omega) (by omega)
      have m1 := rnd_mono way (x * s) (y * s) 10000 (by omega) (Int.mul_nonneg x0 s0) (Int.mul_le_mul_of_nonneg_right (by omega) s0)
      have m2 := rnd_mono way (y * s) (y * r) 10000 (by omega) (Int.mul_nonneg y0 s0) (Int.mul_le_mul_of_nonneg_left (by omega) y0)
      have g1 := Mn.rnd_ge way (x * s / 10000) (x * s % 10000) 10000 (Int.ediv_nonneg (Int.mul_nonneg x0 s0) (by omega))
      have g0 : 0 ≤ x * s / 10000 := Int.ediv_nonneg (Int.mul_nonneg x0 s0) (by omega)
      generalize Mn.rnd way (x * s / 10000) (x * s % 10000) 10000 = a at *
      generalize Mn.rnd way (y * s / 10000) (y * s % 10000) 10000 = b at *
      generalize Mn.rnd way (y * r / 10000) (y * r % 10000) 10000 = c at *
      have g2 : 0 ≤ a := by omega
      clear g1 g0
      have P1 := Lib.hid (And.intro p1 q1)
      have P2 := Lib.hid (And.intro p2 q2)
      have P3 := Lib.hid (And.intro p3 q3)
      clear p1 q1 p2 q2 p3 q3
      have u1 : (if x < y then y else x) = y := by split <;> omega
      have u2 : (if r < s then s else r) = r := by split <;> omega
      have u3 : (if y < x then y else x) = x := by split <;> omega
      have u4 : (if s < r then s else r) = s := by split <;> omega
      go_wp2_with fail
      refine (Mn.rate_is way x s a 0 _ x0 (by omega) s0 (by omega) w0 (by omega) P1.out).mono ?_
      rintro e v1 ⟨rfl, hb1⟩
      go_wp2_with fail
      refine (Mn.rate_is way y s b 0 _ y0 (by omega) s0 (by omega) w0 (by omega) P2.out).mono ?_
      rintro e v2 ⟨rfl, hb2⟩
      go_wp2_with fail
      refine (Mn.rate_is way y r c 0 _ y0 (by omega) r0 (by omega) w0 (by omega) P3.out).mono ?_
      rintro e v3 ⟨rfl, hb3⟩
      go_wp2_with fail
      refine (Mn.rate_is way x 10000 x 0 _ x0 (by omega) (by omega) (by omega) w0 (by omega) P4.out).mono ?_
      rintro e v4 ⟨rfl, hb4⟩
      go_wp2_with fail
      refine (Mn.rate_is way x 0 0 0 _ x0 (by omega) (by omega) (by omega) w0 (by omega) P5.out).mono ?_
      rintro e v5 ⟨rfl, hb5⟩
      go_wp2_with fail
      refine (Mn.awake1 _).mono ?_
      rintro e v6 ⟨rfl, hb6⟩
      go_wp2
      all_goals
        go_ret
        exact ⟨rfl, Hk.andThen (Hk.andThen (Hk.andThen (Hk.andThen (Hk.andThen hb1 hb2) hb3) hb4) hb5) hb6⟩
  · by_cases hrs : r ≤ s
    · obtain ⟨p1, q1, s1⟩ := rates way y r y0 (by omega) (by omega) (by omega)
      obtain ⟨p2, q2, s2⟩ := rates way x r x0 (by omega) (by omega) (by omega)
      obtain ⟨p3, q3, s3⟩ := rates way x s x0 (by omega) (by omega) (by omega)
      have m1 := rnd_mono way (y * r) (x * r) 10000 (by omega) (Int.mul_nonneg y0 r0) (Int.mul_le_mul_of_nonneg_right (by omega) r0)
      have m2 := rnd_mono way (x * r) (x * s) 10000 (by omega) (Int.mul_nonneg x0 r0) (Int.mul_le_mul_of_nonneg_left (by omega) x0)
      have g1 := Mn.rnd_ge way (y * r / 10000) (y * r % 10000) 10000 (Int.ediv_nonneg (Int.mul_nonneg y0 r0) (by omega))
      have g0 : 0 ≤ y * r / 10000 := Int.ediv_nonneg (Int.mul_nonneg y0 r0) (by omega)
      generalize Mn.rnd way (y * r / 10000) (y * r % 10000) 10000 = a at *
      generalize Mn.rnd way (x * r / 10000) (x * r % 10000) 10000 = b at *
      generalize Mn.rnd way (x * s / 10000) (x * s % 10000) 10000 = c at *
      have g2 : 0 ≤ a := by omega
      clear g1 g0
      have P1 := Lib.hid (And.intro p1 q1)
      have P2 := Lib.hid (And.intro p2 q2)
      have P3 := Lib.hid (And.intro p3 q3)
      clear p1 q1 p2 q2 p3 q3
      have u1 : (if x < y then y else x) = x := by split <;> omega
      have u2 : (if r < s then s else r) = s := by split <;> omega
      have u3 : (if y < x then y else x) = y := by split <;> omega
      have u4 : (if s < r then s else r) = r := by split <;> omega
      go_wp2_with fail
      refine (Mn.rate_is way y r a 0 _ y0 (by omega) r0 (by omega) w0 (by omega) P1.out).mono ?_
      rintro e v1 ⟨rfl, hb1⟩
      go_wp2_with fail
      refine (Mn.rate_is way x r b 0 _ x0 (by omega) r0 (by omega) w0 (by omega) P2.out).mono ?_
      rintro e v2 ⟨rfl, hb2⟩
      go_wp2_with fail
      refine (Mn.rate_is way x s c 0 _ x0 (by omega) s0 (by omega) w0 (by omega) P3.out).mono ?_
      rintro e v3 ⟨rfl, hb3⟩
      go_wp2_with fail
      refine (Mn.rate_is way x 10000 x 0 _ x0 (by omega) (by omega) (by omega) w0 (by omega) P4.out).mono ?_
      rintro e v4 ⟨rfl, hb4⟩
      go_wp2_with fail
      refine (Mn.rate_is way x 0 0 0 _ x0 (by omega) (by omega) (by omega) w0 (by omega) P5.out).mono ?_
      rintro e v5 ⟨rfl, hb5⟩
      go_wp2_with fail
      refine (Mn.awake1 _).mono ?_
      rintro e v6 ⟨rfl, hb6⟩
      go_wp2
      all_goals
        go_ret
        exact ⟨rfl, Hk.andThen (Hk.andThen (Hk.andThen (Hk.andThen (Hk.andThen hb1 hb2) hb3) hb4) hb5) hb6⟩
    · obtain ⟨p1, q1, s1⟩ := rates way y s y0 (by omega) (by omega) (by omega)
      obtain ⟨p2, q2, s2⟩ := rates way x s x0 (by omega) (by omega) (by omega)
      obtain ⟨p3, q3, s3⟩ := rates way x r x0 (by omega) (by omega) (by omega)
      have m1 := rnd_mono way (y * s) (x * s) 10000 (by omega) (Int.mul_nonneg y0 s0) (Int.mul_le_mul_of_nonneg_right (by omega) s0)
      have m2 := rnd_mono way (x * s) (x * r) 10000 (by omega) (Int.mul_nonneg x0 s0) (Int.mul_le_mul_of_nonneg_left (by omega) x0)
      have g1 := Mn.rnd_ge way (y * s / 10000) (y * s % 10000) 10000 (Int.ediv_nonneg (Int.mul_nonneg y0 s0) (by omega))
      have g0 : 0 ≤ y * s / 10000 := Int.ediv_nonneg (Int.mul_nonneg y0 s0) (by omega)
      generalize Mn.rnd way (y * s / 10000) (y * s % 10000) 10000 = a at *
      generalize Mn.rnd way (x * s / 10000) (x * s % 10000) 10000 = b at *
      generalize Mn.rnd way (x * r / 10000) (x * r % 10000) 10000 = c at *
      have g2 : 0 ≤ a := by omega
      clear g1 g0
      have P1 := Lib.hid (And.intro p1 q1)
      have P2 := Lib.hid (And.intro p2 q2)
      have P3 := Lib.hid (And.intro p3 q3)
      clear p1 q1 p2 q2 p3 q3
      have u1 : (if x < y then y else x) = x := by split <;> omega
      have u2 : (if r < s then s else r) = r := by split <;> omega
      have u3 : (if y < x then y else x) = y := by split <;> omega
      have u4 : (if s < r then s else r) = s := by split <;> omega
      go_wp2_with fail
      refine (Mn.rate_is way y s a 0 _ y0 (by omega) s0 (by omega) w0 (by omega) P1.out).mono ?_
      rintro e v1 ⟨rfl, hb1⟩
      go_wp2_with fail
      refine (Mn.rate_is way x s b 0 _ x0 (by omega) s0 (by omega) w0 (by omega) P2.out).mono ?_
      rintro e v2 ⟨rfl, hb2⟩
      go_wp2_with fail
      refine (Mn.rate_is way x r c 0 _ x0 (by omega) r0 (by omega) w0 (by omega) P3.out).mono ?_
      rintro e v3 ⟨rfl, hb3⟩
      go_wp2_with fail
      refine (Mn.rate_is way x 10000 x 0 _ x0 (by omega) (by omega) (by omega) w0 (by omega) P4.out).mono ?_
      rintro e v4 ⟨rfl, hb4⟩
      go_wp2_with fail
      refine (Mn.rate_is way x 0 0 0 _ x0 (by omega) (by omega) (by omega) w0 (by omega) P5.out).mono ?_
      rintro e v5 ⟨rfl, hb5⟩
      go_wp2_with fail
      refine (Mn.awake1 _).mono ?_
      rintro e v6 ⟨rfl, hb6⟩
      go_wp2
      all_goals
        go_ret
        exact ⟨rfl, Hk.andThen (Hk.andThen (Hk.andThen (Hk.andThen (Hk.andThen hb1 hb2) hb3) hb4) hb5) hb6⟩

set_option maxRecDepth 100000 in
theorem lifted (os : Os) (started : os.Started) (H : Type) (enc : TypeId × Value → H) :
    ReturnsInHanded {} Try.checked os 6 .any (Rows.moneyOrderSpec.pre6 enc Try.prog Try.f6 Rows.moneyOrderRow.domain false) (Rows.moneyOrderSpec.post enc Try.prog Try.f6 false true false false) := by
  refine returnsInHanded_of_change (C := Try.checked) own started (by kernel_rfl) Try.func6
    (ChangeSpec.witness6 (enc := enc) (C := Try.checked) false ⟨#[], #[.int .i64 0, .int .i64 0, .int .i64 0, .int .i64 0, .int .i64 0], []⟩ 8 (by kernel_rfl) (by kernel_rfl) (by kernel_rfl) (by kernel_rfl)) ?_
  intro W base args ds gs before hval0 hW hcnd _
  have hval : ∀ (j : Nat) t v, Try.f6.params[j]? = some t → args[j]? = some v → Value.okWide Try.prog W .any base t v := hval0
  have hW' := hW
  obtain ⟨p, q, hA0, hV, rfl, hfz, hnd⟩ := hW
  have hA : DataW.TrodAll enc Try.prog W 0 (fun _ => true) true Try.f6.params.toList args.toList ds p := hA0
  rw [Try.params6] at hA hval
  obtain ⟨v0, vs0, d0, ds0, p0, q0, hargs, rfl, rfl, h0, r0⟩ := trodAll_cons hA
  obtain ⟨v1, vs1, d1, ds1, p1, q1, rfl, rfl, rfl, h1, r1⟩ := trodAll_cons r0
  obtain ⟨v2, vs2, d2, ds2, p2, q2, rfl, rfl, rfl, h2, r2⟩ := trodAll_cons r1
  obtain ⟨v3, vs3, d3, ds3, p3, q3, rfl, rfl, rfl, h3, r3⟩ := trodAll_cons r2
  obtain ⟨v4, vs4, d4, ds4, p4, q4, rfl, rfl, rfl, h4, r4⟩ := trodAll_cons r3
  obtain ⟨rfl, rfl, rfl⟩ := trodAll_nil r4
  obtain rfl : args = #[v0, v1, v2, v3, v4] := by cases args; simp_all
  obtain ⟨rfl, rfl⟩ := trodVars_none hV
  obtain ⟨a0, rfl, rfl, rfl, w0⟩ := open_int Try.underlying2 (hval 0 2 v0 rfl rfl) h0
  obtain ⟨a1, rfl, rfl, rfl, w1⟩ := open_int Try.underlying2 (hval 1 2 v1 rfl rfl) h1
  obtain ⟨a2, rfl, rfl, rfl, w2⟩ := open_int Try.underlying2 (hval 2 2 v2 rfl rfl) h2
  obtain ⟨a3, rfl, rfl, rfl, w3⟩ := open_int Try.underlying2 (hval 3 2 v3 rfl rfl) h3
  obtain ⟨a4, rfl, rfl, rfl, w4⟩ := open_int Try.underlying3 (hval 4 3 v4 rfl rfl) h4
  clear hA0 hval0
  simp only [List.append_nil] at hW'
  refine (walk a0 a1 a2 a3 a4 w0 w1 w2 w3 w4 W).mono fun e W' ⟨he, hb⟩ => ?_
  subst he
  exact ⟨_, rfl, Hk.closeRow (pa := []) (pv := []) hW' hb rfl (fun _ _ _ => (trodAll_cons_mk (shut_bool Try.underlying4 _) trodAll_mk0)) (fun sp _ => (trodAll_cons_mk (shut_int Try.underlying2 w0) (trodAll_cons_mk (shut_int Try.underlying2 w1) (trodAll_cons_mk (shut_int Try.underlying2 w2) (trodAll_cons_mk (shut_int Try.underlying2 w3) (trodAll_cons_mk (shut_int Try.underlying3 w4) trodAll_mk0)))))) (fun _ _ => rfl) (ok_one (by kernel_rfl) rfl (okWide_bool_mk Try.underlying4 _))⟩

theorem over : Rows.moneyOrderRow.holds Try.pinned (OpenSpec.ofChange Rows.moneyOrderSpec) :=
  OpenClaim.holds_of_wide 6 Try.f6 rfl rfl rfl rfl rfl rfl rfl ⟨rfl, rfl, rfl, rfl, rfl⟩ rfl rfl rfl rfl rfl (by kernel_rfl) Try.func6 (by kernel_rfl)
    (of_decide_eq_true (by kernel_rfl)) (by unfold Func.isWrapper; first | (rw [if_pos (by decide +kernel)]; kernel_rfl) | (rw [if_neg (by decide +kernel)]; exact ⟨rfl, rfl⟩))
    (fun os started H enc _ => lifted os started H enc)

/-- ████ THE STATEMENT ████ -/
theorem proved : Rows.MoneyOrderSaid :=
  over
end Go.Proofs.Ytdhgneaolohgkaa.moneyOrder

