/- P1.2: two shares of an amount, at rates that make a whole, come to it, but for one at most; for every int64 and int. No conditions. -/
import Derived.Test.YtdhgneaolohgkaaMnD
namespace Go.Proofs.Ytdhgneaolohgkaa.moneyApart
open Go.ChangeShapes Go.WideShapes Go.ChangeAt Go.RowKit
set_option linter.unusedVariables false

theorem own : ownKnob Try.prog.godebug = none := by kernel_rfl

theorem rnd_le_succ (way q r d : Int) : Mn.rnd way q r d ≤ q + 1 := by
  unfold Mn.rnd
  split
  · omega
  · split
    · omega
    · split <;> omega

theorem rnd_mono_same (way q r s d : Int) (h : r ≤ s) : Mn.rnd way q r d ≤ Mn.rnd way q s d := by
  unfold Mn.rnd
  by_cases h0 : way = 0
  · rw [if_pos h0, if_pos h0]; omega
  · rw [if_neg h0, if_neg h0]
    by_cases h1 : way = 2 ∧ 2 * r = d
    · rw [if_pos h1]
      by_cases h2 : way = 2 ∧ 2 * s = d
      · rw [if_pos h2]; omega
      · rw [if_neg h2, if_pos (by omega)]; omega
    · rw [if_neg h1]
      by_cases h2 : way = 2 ∧ 2 * s = d
      · rw [if_pos h2, if_neg (by omega)]; omega
      · rw [if_neg h2]
        split
        · rw [if_pos (by omega)]; omega
        · split <;> omega

theorem rnd_mono (way N M d : Int) (hd : 1 ≤ d) (hN : 0 ≤ N) (h : N ≤ M) : Mn.rnd way (N / d) (N % d) d ≤ Mn.rnd way (M / d) (M % d) d := by
  have h1 : N / d ≤ M / d := Int.ediv_le_ediv (by omega) h
  by_cases he : N / d = M / d
  · have h2 := Int.mul_ediv_add_emod N d
    have h3 := Int.mul_ediv_add_emod M d
    rw [he] at h2 ⊢
    exact rnd_mono_same _ _ _ _ _ (by omega)
  · have h2 := rnd_le_succ way (N / d) (N % d) d
    have h3 := Mn.rnd_ge way (M / d) (M % d) d (by have := Int.ediv_nonneg hN (show (0 : Int) ≤ d by omega); omega)
    omega

theorem whole (way x : Int) : Mn.rnd way (x * 10000 / 10000) (x * 10000 % 10000) 10000 = x := by
  have e1 : x * 10000 / 10000 = x := by omega
  have e2 : x * 10000 % 10000 = 0 := by omega
  rw [e1, e2]
  simp [Mn.rnd]

theorem rates (way x rate : Int) (x0 : 0 ≤ x) (x1 : x ≤ 100000000000000) (r0 : 0 ≤ rate) (r1 : rate ≤ 10000) :
    Mn.timesV way x rate 10000 = Mn.rnd way (x * rate / 10000) (x * rate % 10000) 10000 ∧ Mn.timesE way x rate 10000 = 0 ∧ Mn.rnd way (x * rate / 10000) (x * rate % 10000) 10000 ≤ x := by
  have h0 : 0 ≤ x * rate := Int.mul_nonneg x0 r0
  have h := rnd_mono way (x * rate) (x * 10000) 10000 (by omega) h0 (Int.mul_le_mul_of_nonneg_left r1 x0)
  rw [whole] at h
  unfold Mn.timesV Mn.timesE
  rw [if_pos (by omega), if_pos (by omega)]
  exact ⟨rfl, rfl, h⟩

theorem apart (way x r : Int) (x0 : 0 ≤ x) : x - 1 ≤ Mn.rnd way (x * r / 10000) (x * r % 10000) 10000 + Mn.rnd way (x * (10000 - r) / 10000) (x * (10000 - r) % 10000) 10000 ∧
    Mn.rnd way (x * r / 10000) (x * r % 10000) 10000 + Mn.rnd way (x * (10000 - r) / 10000) (x * (10000 - r) % 10000) 10000 ≤ x + 1 := by
  have e : x * (10000 - r) = x * 10000 - x * r := by rw [Int.mul_sub]
  rw [e]
  generalize x * r = N
  generalize hq : N / 10000 = q
  generalize hr : N % 10000 = t
  by_cases ht : t = 0
  · have h1 : (x * 10000 - N) / 10000 = x - q := by omega
    have h2 : (x * 10000 - N) % 10000 = 0 := by omega
    rw [h1, h2, ht]
    simp [Mn.rnd]
    omega
  · have h1 : (x * 10000 - N) / 10000 = x - q - 1 := by omega
    have h2 : (x * 10000 - N) % 10000 = 10000 - t := by omega
    rw [h1, h2]
    have a1 := rnd_le_succ way q t 10000
    have a2 := rnd_le_succ way (x - q - 1) (10000 - t) 10000
    have b1 : q ≤ Mn.rnd way q t 10000 := by unfold Mn.rnd; repeat (first | omega | split)
    have b2 : x - q - 1 ≤ Mn.rnd way (x - q - 1) (10000 - t) 10000 := by unfold Mn.rnd; repeat (first | omega | split)
    omega

set_option maxHeartbeats 4000000 in
theorem walk (a0 a1 a2 : Int) (w0 : (Lit.int .i64 a0).wf = true) (w1 : (Lit.int .i64 a1).wf = true) (w2 : (Lit.int .i64 a2).wf = true) (w : World) :
    Calls Try.prog 8 #[.int .i64 a0, .int .i64 a1, .int .i64 a2] w fun e w' => e = .returned (.bool true) ∧ Below w.heap.size w w' := by
  clear w0 w1 w2
  go_enter Try.func8, Try.ntmps8
  go_wp2_with fail
  refine (Mn.mod64_any _ _ _ (by omega) (by omega)).mono ?_
  rintro e w1 ⟨⟨x, x0, x1, rfl⟩, rfl⟩
  go_wp2_with fail
  refine (Mn.mod64_any _ _ _ (by omega) (by omega)).mono ?_
  rintro e w1 ⟨⟨r, r0, r1, rfl⟩, rfl⟩
  go_wp2_with fail
  refine (Mn.mod_any _ _ _ (by omega) (by omega)).mono ?_
  rintro e w1 ⟨⟨way, w0, w1, rfl⟩, rfl⟩
  obtain ⟨p1, p2, p3⟩ := rates way x r x0 (by omega) r0 (by omega)
  obtain ⟨q1, q2, q3⟩ := rates way x (10000 - r) x0 (by omega) (by omega) (by omega)
  obtain ⟨h1, h2⟩ := apart way x r x0
  have a0 := Mn.rnd_ge way (x * r / 10000) (x * r % 10000) 10000 (Int.ediv_nonneg (Int.mul_nonneg x0 r0) (by omega))
  have b0 := Mn.rnd_ge way (x * (10000 - r) / 10000) (x * (10000 - r) % 10000) 10000 (Int.ediv_nonneg (Int.mul_nonneg x0 (by omega)) (by omega))
  have a1 : 0 ≤ x * r / 10000 := Int.ediv_nonneg (Int.mul_nonneg x0 r0) (by omega)
  have b1 : 0 ≤ x * (10000 - r) / 10000 := Int.ediv_nonneg (Int.mul_nonneg x0 (by omega)) (by omega)
  generalize Mn.rnd way (x * r / 10000) (x * r % 10000) 10000 = a at *
  generalize Mn.rnd way (x * (10000 - r) / 10000) (x * (10000 - r) % 10000) 10000 = b at *
  have a2 : 0 ≤ a := by omega
  have b2 : 0 ≤ b := by omega
  have P := Lib.hid (And.intro p1 p2)
  have Q := Lib.hid (And.intro q1 q2)
  clear p1 p2 q1 q2 a0 b0 a1 b1
  go_wp2_with fail
  refine (Mn.rate_is way x r a 0 _ x0 (by omega) r0 (by omega) w0 (by omega) P.out).mono ?_
  rintro e w2 ⟨rfl, hb1⟩
  go_wp2_with fail
  refine (Mn.rate_is way x (10000 - r) b 0 _ x0 (by omega) (by omega) (by omega) w0 (by omega) Q.out).mono ?_
  rintro e w3 ⟨rfl, hb2⟩
  go_wp2_with fail
  refine (Mn.awake1 _).mono ?_
  rintro e w4 ⟨rfl, hb3⟩
  go_wp2
  all_goals
    go_ret
    exact ⟨rfl, Hk.andThen (Hk.andThen hb1 hb2) hb3⟩

set_option maxRecDepth 100000 in
theorem lifted (os : Os) (started : os.Started) (H : Type) (enc : TypeId × Value → H) :
    ReturnsInHanded {} Try.checked os 8 .any (Rows.moneyApartSpec.pre6 enc Try.prog Try.f8 Rows.moneyApartRow.domain false) (Rows.moneyApartSpec.post enc Try.prog Try.f8 false true false false) := by
  refine returnsInHanded_of_change (C := Try.checked) own started (by kernel_rfl) Try.func8
    (ChangeSpec.witness6 (enc := enc) (C := Try.checked) false ⟨#[], #[.int .i64 0, .int .i64 0, .int .i64 0], []⟩ 8 (by kernel_rfl) (by kernel_rfl) (by kernel_rfl) (by kernel_rfl)) ?_
  intro W base args ds gs before hval0 hW hcnd _
  have hval : ∀ (j : Nat) t v, Try.f8.params[j]? = some t → args[j]? = some v → Value.okWide Try.prog W .any base t v := hval0
  have hW' := hW
  obtain ⟨p, q, hA0, hV, rfl, hfz, hnd⟩ := hW
  have hA : DataW.TrodAll enc Try.prog W 0 (fun _ => true) true Try.f8.params.toList args.toList ds p := hA0
  rw [Try.params8] at hA hval
  obtain ⟨v0, vs0, d0, ds0, p0, q0, hargs, rfl, rfl, h0, r0⟩ := trodAll_cons hA
  obtain ⟨v1, vs1, d1, ds1, p1, q1, rfl, rfl, rfl, h1, r1⟩ := trodAll_cons r0
  obtain ⟨v2, vs2, d2, ds2, p2, q2, rfl, rfl, rfl, h2, r2⟩ := trodAll_cons r1
  obtain ⟨rfl, rfl, rfl⟩ := trodAll_nil r2
  obtain rfl : args = #[v0, v1, v2] := by cases args; simp_all
  obtain ⟨rfl, rfl⟩ := trodVars_none hV
  obtain ⟨a0, rfl, rfl, rfl, w0⟩ := open_int Try.underlying2 (hval 0 2 v0 rfl rfl) h0
  obtain ⟨a1, rfl, rfl, rfl, w1⟩ := open_int Try.underlying2 (hval 1 2 v1 rfl rfl) h1
  obtain ⟨a2, rfl, rfl, rfl, w2⟩ := open_int Try.underlying3 (hval 2 3 v2 rfl rfl) h2
  clear hA0 hval0
  simp only [List.append_nil] at hW'
  refine (walk a0 a1 a2 w0 w1 w2 W).mono fun e W' ⟨he, hb⟩ => ?_
  subst he
  exact ⟨_, rfl, Hk.closeRow (pa := []) (pv := []) hW' hb rfl (fun _ _ _ => (trodAll_cons_mk (shut_bool Try.underlying4 _) trodAll_mk0)) (fun sp _ => (trodAll_cons_mk (shut_int Try.underlying2 w0) (trodAll_cons_mk (shut_int Try.underlying2 w1) (trodAll_cons_mk (shut_int Try.underlying3 w2) trodAll_mk0)))) (fun _ _ => rfl) (ok_one (by kernel_rfl) rfl (okWide_bool_mk Try.underlying4 _))⟩

theorem over : Rows.moneyApartRow.holds Try.pinned (OpenSpec.ofChange Rows.moneyApartSpec) :=
  OpenClaim.holds_of_wide 8 Try.f8 rfl rfl rfl rfl rfl rfl rfl ⟨rfl, rfl, rfl, rfl, rfl⟩ rfl rfl rfl rfl rfl (by kernel_rfl) Try.func8 (by kernel_rfl)
    (of_decide_eq_true (by kernel_rfl)) (by unfold Func.isWrapper; first | (rw [if_pos (by decide +kernel)]; kernel_rfl) | (rw [if_neg (by decide +kernel)]; exact ⟨rfl, rfl⟩))
    (fun os started H enc _ => lifted os started H enc)

/-- ████ THE STATEMENT ████ -/
theorem proved : Rows.MoneyApartSaid :=
  over
end Go.Proofs.Ytdhgneaolohgkaa.moneyApart

