/- What follows in chapter 3: parts come to the total; each is the whole part of what is its, or one more; who has no weight has none; for every int64 and slice of int64. No conditions. -/
import Derived.Test.YtmnbamfemcgloaaShG
import Derived.Test.YtmnbamfemcgloaaKitC
namespace Go.Proofs.Ytmnbamfemcgloaa.shareSums
open Go.ChangeShapes Go.WideShapes Go.ChangeAt Go.RowKit
set_option linter.unusedVariables false

theorem own : ownKnob Try.prog.godebug = none := by kernel_rfl

theorem quo_in (u S : Int) (u0 : 0 ≤ u) (S0 : 1 ≤ S) : u.tdiv S = u / S ∧ u.tmod S = u % S := ⟨Int.tdiv_eq_ediv_of_nonneg u0, Int.tmod_eq_emod_of_nonneg u0⟩

set_option maxHeartbeats 4000000 in
set_option maxRecDepth 100000 in
theorem walk (w : World) (a0 : Int) (w0 : (Lit.int .i64 a0).wf = true) (A : Option Addr) (n c : Nat) (f : Nat → Int) (ha : Hl.Ints w w.heap.size A n f) (hn : n ≤ 9223372036854775807) (hf : ∀ k, k < n → -9223372036854775808 ≤ f k ∧ f k ≤ 9223372036854775807) :
    Calls Try.prog 5 #[.int .i64 a0, .slice A n c] w fun e w' => e = .returned (.bool true) ∧ Below w.heap.size w w' := by
  have HM := Lib.hid (Sh.weights_any A n c f 1048576 w ha hn (by omega) (by omega))
  clear w0 hf ha hn
  go_enter Try.func5, Try.ntmps5
  go_wp2_with fail
  refine (Mn.mod64_any _ _ _ (by omega) (by omega)).mono ?_
  rintro e w1 ⟨⟨t, t0, t1, rfl⟩, rfl⟩
  go_wp2_with fail
  refine HM.out.mono ?_
  rintro e w1 ⟨A1, m, c1, g, rfl, hi, hm, hg, hb⟩
  have HSu := Lib.hid (Sh.sum_any A1 m c1 g _ w1 hi (by omega) (fun k hk => by have := hg k hk; omega))
  have HS := Lib.hid (Sh.small_sum g m 1048576 hm hg (by omega))
  have HI := Lib.hid (And.intro hi hg)
  have HB := Lib.hid hb
  obtain ⟨S, hS⟩ : ∃ S, S = Sh.sumF g m := ⟨_, rfl⟩
  rw [← hS] at HSu HS
  have s0 := HS.out.1
  have s1 := HS.out.2
  have HE := Lib.hid hS
  have m6 : (m : Int) ≤ 60 := by omega
  clear hi hb hg hS HS
  go_wp2_with fail
  refine HSu.out.mono ?_
  rintro e w2 ⟨rfl, hD⟩
  have hi2 := Sh.ints_drawn HI.out.1 hD
  have HB2 := Lib.hid (HB.out.trans ((hD.below w1.heap.size).mono HB.out.size))
  have HL := Lib.hid (Sh.largest_any t A1 m c1 g w2 hi2)
  have HI2 := Lib.hid hi2
  clear hD hi2 HSu HB
  have hf1 : ∀ k, k < m → 0 ≤ g k ∧ g k ≤ 100000000000000 := fun k hk => by have := HI.out.2 k hk; omega
  by_cases hz : S = 0
  · subst hz
    by_cases hp : 0 < t
    · rw [Sh.larg_none ⟨t0, by omega⟩ (by omega) hf1 HE.out.symm hp] at HL
      have dp : decide (0 < t) = true := by simpa using hp
      clear hf1
      go_wp2_with fail
      refine HL.out.mono ?_
      rintro e w3 ⟨A2, c2, rfl, hi3, hb3⟩
      have HB3 := Lib.hid (HB2.out.trans (hb3.mono HB2.out.size))
      clear hi3 hb3
      go_wp2_with fail
      refine (Sh.awake3 _).mono ?_
      rintro e w4 ⟨rfl, hb4⟩
      have HB4 := Lib.hid (HB3.out.trans (hb4.mono HB3.out.size))
      clear hb4
      go_wp2_with fail
      refine (Sh.awake3 _).mono ?_
      rintro e w5 ⟨rfl, hb5⟩
      have HB5 := Lib.hid (HB4.out.trans (hb5.mono HB4.out.size))
      clear hb5
      go_wp2
      all_goals
        go_ret
        exact ⟨rfl, HB5.out⟩
    · rw [Sh.larg_zero ⟨t0, by omega⟩ (by omega) hf1 HE.out.symm hp] at HL
      have dp : decide (0 < t) = false := by simp; omega
      clear hf1
      go_wp2_with fail
      refine HL.out.mono ?_
      rintro e w3 ⟨A2, c2, rfl, hi3, hb3⟩
      have HB3 := Lib.hid (HB2.out.trans (hb3.mono HB2.out.size))
      clear hi3 hb3
      go_wp2_with fail
      refine (Sh.awake3 _).mono ?_
      rintro e w4 ⟨rfl, hb4⟩
      have HB4 := Lib.hid (HB3.out.trans (hb4.mono HB3.out.size))
      clear hb4
      go_wp2_with fail
      refine (Sh.awake3 _).mono ?_
      rintro e w5 ⟨rfl, hb5⟩
      have HB5 := Lib.hid (HB4.out.trans (hb5.mono HB4.out.size))
      clear hb5
      go_wp2
      all_goals
        go_ret
        exact ⟨rfl, HB5.out⟩
  · have S0 : 1 ≤ S := by omega
    have hz' : Sh.sumF g m ≠ 0 := by rw [← HE.out]; exact hz
    rw [Sh.larg_parts ⟨t0, by omega⟩ (by omega) hf1 hz' (by rw [← HE.out]; omega), ← HE.out] at HL
    have HK := Lib.hid (Sh.known t S g m HE.out S0)
    have HZ := Lib.hid (fun i hi => Sh.sized t S g m t0 (fun k hk => (hf1 k hk).1) HE.out S0 i hi)
    have bz : (S == 0) = false := by simpa using hz
    clear hf1 hz hz'
    generalize Sh.parts t S g m = l at *
    go_wp2_with fail
    refine HL.out.mono ?_
    rintro e w3 ⟨A2, c2, he, hi3, hb3⟩
    have hlm : l.length = m := HK.out.len
    have he2 : e = .returned (.tuple #[.slice A2 m c2, .int .i64 0]) := by rw [he, hlm]
    subst he2
    have HB3 := Lib.hid (HB2.out.trans (hb3.mono HB2.out.size))
    have HI3 : Hid (Hl.Ints w3 w3.heap.size A1 m g ∧ Hl.Ints w3 w3.heap.size A2 m (Sh.nth l)) := Lib.hid ⟨(HI2.out.below hb3 (Nat.le_refl _)).size, by have := hi3; rw [hlm] at this; exact this⟩
    clear he hi3 hb3 hlm
    go_wp2_with fail
    refine (Sh.awake3 _).mono ?_
    rintro e w4 ⟨rfl, hb4⟩
    have HB4 := Lib.hid (HB3.out.trans (hb4.mono HB3.out.size))
    have HI4 := Lib.hid (And.intro (HI3.out.1.below hb4 (Nat.le_refl _)).size (HI3.out.2.below hb4 (Nat.le_refl _)).size)
    have HSA := Lib.hid (Sh.sum_any A2 m c2 (Sh.nth l) _ w4 HI4.out.2 (by omega) (fun k hk => by have := HK.out.each k hk; have := HZ.out k hk; omega))
    rw [HK.out.sum] at HSA
    clear hb4
    go_wp2_with fail
    refine HSA.out.mono ?_
    rintro e w5 ⟨rfl, hD⟩
    have HB5 := Lib.hid (HB4.out.trans ((hD.below w4.heap.size).mono HB4.out.size))
    have HI5 := Lib.hid (And.intro (Sh.ints_drawn HI4.out.1 hD) (Sh.ints_drawn HI4.out.2 hD))
    clear hD HSA HI4 HB4 HI3 HB3
    go_wp2
    go_loopw [9] (fun s wr => ∃ i : Nat, s = .int .i64 i ∧ i ≤ m ∧ Hl.Drawn w5 wr) (fun s _ => m - (intOf s).toNat)
    case atStart => exact ⟨0, rfl, by omega, ⟨0, rfl⟩⟩
    case round =>
      obtain ⟨i, rfl, him, hD⟩ := hrel
      have i0 : (0 : Int) ≤ (i : Int) := by omega
      by_cases hlt : i < m
      · have i1 : (i : Int) < (m : Int) := by omega
        obtain ⟨b, o, rfl, _, k1⟩ := (Sh.ints_drawn HI5.out.1 hD) i hlt
        obtain ⟨b', o', rfl, _, k2⟩ := (Sh.ints_drawn HI5.out.2 hD) i hlt
        obtain ⟨z0, z1, z2, z3, z4⟩ := HZ.out i hlt
        have g0 := (HI.out.2 i hlt).1
        have g1 := (HI.out.2 i hlt).2
        have z5 : t * g i ≤ 1073741824 * 1048576 := Int.mul_le_mul (by omega) (by omega) g0 (by omega)
        have heach := HK.out.each i hlt
        obtain ⟨y1, y2⟩ := quo_in (t * g i) S z0 S0
        have y3 : wrap64 (t * g i) = t * g i := IntWalk.wrap64_in _ ⟨by omega, by omega⟩
        have y4 : wrap64 (t * g i / S) = t * g i / S := IntWalk.wrap64_in _ ⟨by omega, by omega⟩
        have HD := Lib.hid hD
        generalize Sh.nth l i = x at *
        obtain ⟨q, hq⟩ : ∃ q, q = t * g i / S := ⟨_, rfl⟩
        obtain ⟨r, hr⟩ : ∃ r, r = t * g i % S := ⟨_, rfl⟩
        rw [← hq] at y1 y4 heach z1 z2
        rw [← hr] at y2 heach z3 z4
        obtain ⟨u, hu⟩ : ∃ u, u = t * g i := ⟨_, rfl⟩
        rw [← hu] at y1 y2
        have y3' : wrap64 (t * g i) = u := by rw [y3, hu]
        clear hq hr hD y3
        have x0 : 0 ≤ q := by omega
        have x1 : q ≤ 1073741824 := by omega
        clear hu
        rcases heach with hx | ⟨hx, hr0⟩
        · have b1 : (x != q) = false := by rw [hx]; simp
          clear z0 z1 z2 z3 z4 z5 hx
          go_wp2_with fail
          go_quiet (fail)
          go_wp2
          go_roundw
          case rel => exact ⟨i + 1, by go_num, by omega, HD.out.more _⟩
          case measure => simp [intOf]; omega
        · have b1 : (x != q) = true := by rw [bne_iff_ne]; omega
          have b2 : (x != q + 1) = false := by rw [hx]; simp
          have b3 : (r == 0) = false := by rw [beq_eq_false_iff_ne]; exact hr0
          clear z0 z1 z2 z3 z4 z5 hx hr0
          go_wp2_with fail
          go_quiet (fail)
          go_wp2
          go_roundw
          case rel => exact ⟨i + 1, by go_num, by omega, HD.out.more _⟩
          case measure => simp [intOf]; omega
      · obtain rfl : i = m := by omega
        have i1 : ¬ (i : Int) < (i : Int) := by omega
        have HF := Lib.hid (HB5.out.trans ((hD.below w5.heap.size).mono HB5.out.size))
        go_wp2
        go_ret
        exact ⟨rfl, HF.out⟩


set_option maxRecDepth 100000 in
theorem lifted (os : Os) (started : os.Started) (H : Type) (enc : TypeId × Value → H) :
    ReturnsInHanded {} Try.checked os 5 .any (Rows.shareSumsSpec.pre6 enc Try.prog Try.f5 Rows.shareSumsRow.domain false) (Rows.shareSumsSpec.post enc Try.prog Try.f5 false true false false) := by
  refine returnsInHanded_of_change (C := Try.checked) own started (by kernel_rfl) Try.func5
    (ChangeSpec.witness6 (enc := enc) (C := Try.checked) false ⟨#[], #[.int .i64 0, .slice none 0 0], []⟩ 8 (by kernel_rfl) (by kernel_rfl) (by kernel_rfl) (by kernel_rfl)) ?_
  intro W base args ds gs before hval0 hW hcnd _
  have hval : ∀ (j : Nat) t v, Try.f5.params[j]? = some t → args[j]? = some v → Value.okWide Try.prog W .any base t v := hval0
  have hW' := hW
  obtain ⟨p, q, hA0, hV, rfl, hfz, hnd⟩ := hW
  have hA : DataW.TrodAll enc Try.prog W 0 (fun _ => true) true Try.f5.params.toList args.toList ds p := hA0
  rw [Try.params5] at hA hval
  obtain ⟨v0, vs0, d0, ds0, p0, q0, hargs, rfl, rfl, h0, r0⟩ := trodAll_cons hA
  obtain ⟨v1, vs1, d1, ds1, p1, q1, rfl, rfl, rfl, h1, r1⟩ := trodAll_cons r0
  obtain ⟨rfl, rfl, rfl⟩ := trodAll_nil r1
  obtain rfl : args = #[v0, v1] := by cases args; simp_all
  obtain ⟨a0, rfl, _, _, w0⟩ := open_int Try.underlying2 (hval 0 2 v0 rfl rfl) h0
  obtain ⟨A1, n1, c1, f1, rfl, x1, y1, z1, u1⟩ := Hk.open_ints_at Try.underlying22 Try.underlying2 (by kernel_rfl) (hval 1 22 v1 rfl rfl) h1
  refine (walk W a0 w0 A1 n1 c1 f1 x1 y1 z1).mono fun e W' ⟨he, hb⟩ => ?_
  subst he
  exact ⟨_, rfl, Hk.closeLaw (tb := 4) (by kernel_rfl) (by kernel_rfl) rfl rfl rfl Try.underlying4 hW' hb⟩

theorem over : Rows.shareSumsRow.holds Try.pinned (OpenSpec.ofChange Rows.shareSumsSpec) :=
  OpenClaim.holds_of_wide 5 Try.f5 rfl rfl rfl rfl rfl rfl rfl ⟨rfl, rfl, rfl, rfl, rfl⟩ rfl rfl rfl rfl rfl (by kernel_rfl) Try.func5 (by kernel_rfl)
    (of_decide_eq_true (by kernel_rfl)) (by unfold Func.isWrapper; first | (rw [if_pos (by decide +kernel)]; kernel_rfl) | (rw [if_neg (by decide +kernel)]; exact ⟨rfl, rfl⟩))
    (fun os started H enc _ => lifted os started H enc)

/-- The statement. -/
theorem proved : Rows.ShareSumsSaid :=
  over
end Go.Proofs.Ytmnbamfemcgloaa.shareSums
