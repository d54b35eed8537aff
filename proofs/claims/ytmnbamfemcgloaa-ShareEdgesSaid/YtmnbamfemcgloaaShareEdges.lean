/- P3.1, P3.2: sums of weights just at the greatest amount, and one above; Upto and Piece at the ends of their places; for every int64 and int. No conditions. -/
import Derived.Test.YtmnbamfemcgloaaShF
import Derived.Test.YtmnbamfemcgloaaMnB
import Derived.Test.YtmnbamfemcgloaaKitC
namespace Go.Proofs.Ytmnbamfemcgloaa.shareEdges
open Go.ChangeShapes Go.WideShapes Go.ChangeAt Go.RowKit
set_option linter.unusedVariables false

theorem own : ownKnob Try.prog.godebug = none := by kernel_rfl

theorem two (t x : Int) (t0 : 0 ≤ t) (x0 : 0 ≤ x) (x1 : x ≤ 100000000000000) : ∃ p q : Int, Sh.parts t 100000000000000 (Sh.nth [x, 100000000000000 - x]) 2 = [p, q] ∧ p + q = t ∧ 0 ≤ p ∧ 0 ≤ q := by
  have hs : (100000000000000 : Int) = Sh.sumF (Sh.nth [x, 100000000000000 - x]) 2 := by simp [Sh.sumF, Sh.nth]; omega
  have hl := Sh.parts_length (t := t) (S := 100000000000000) (f := Sh.nth [x, 100000000000000 - x]) (n := 2)
  have hsum := Sh.parts_sum (t := t) (by omega) hs
  have h0 := Sh.nth_parts (t := t) (S := 100000000000000) (f := Sh.nth [x, 100000000000000 - x]) (n := 2) (i := 0) (by omega)
  have h1 := Sh.nth_parts (t := t) (S := 100000000000000) (f := Sh.nth [x, 100000000000000 - x]) (n := 2) (i := 1) (by omega)
  have b0 := Sh.base_nonneg (t := t) (S := 100000000000000) (f := Sh.nth [x, 100000000000000 - x]) (by omega) t0 0 x0
  have b1 := Sh.base_nonneg (t := t) (S := 100000000000000) (f := Sh.nth [x, 100000000000000 - x]) (by omega) t0 1 (show 0 ≤ 100000000000000 - x by omega)
  generalize Sh.parts t 100000000000000 (Sh.nth [x, 100000000000000 - x]) 2 = l at *
  match l, hl with
  | [p, q], _ =>
    have e0 : Sh.nth [p, q] 0 = p := rfl
    have e1 : Sh.nth [p, q] 1 = q := rfl
    simp only [Sh.sumL] at hsum
    rw [e0] at h0
    rw [e1] at h1
    exact ⟨p, q, rfl, by omega, by omega, by omega⟩

theorem larg2 (t x : Int) (t0 : 0 ≤ t) (t1 : t ≤ 100000000000000) (x0 : 0 ≤ x) (x1 : x ≤ 100000000000000) : ∃ p q : Int, Sh.largR t (Sh.nth [x, 100000000000000 - x]) 2 = ([p, q], 0) ∧ p + q = t ∧ 0 ≤ p ∧ 0 ≤ q := by
  obtain ⟨p, q, h, h2⟩ := two t x t0 x0 x1
  have hs : Sh.sumF (Sh.nth [x, 100000000000000 - x]) 2 = 100000000000000 := by simp [Sh.sumF, Sh.nth]; omega
  refine ⟨p, q, ?_, h2⟩
  rw [Sh.larg_parts ⟨t0, t1⟩ (by omega) ?_ (by omega) (by omega), hs, h]
  intro k hk
  have : k = 0 ∨ k = 1 := by omega
  rcases this with rfl | rfl
  · exact ⟨x0, x1⟩
  · show 0 ≤ 100000000000000 - x ∧ 100000000000000 - x ≤ 100000000000000
    omega

theorem larg3 (t x : Int) (t0 : 0 ≤ t) (t1 : t ≤ 100000000000000) (x0 : 0 ≤ x) (x1 : x ≤ 100000000000000) : Sh.largR t (Sh.nth [x, 100000000000000 - x, 1]) 3 = ([], 5) := by
  refine Sh.larg_over ⟨t0, t1⟩ (by omega) ?_ (by simp [Sh.sumF, Sh.nth]; omega)
  intro k hk
  have : k = 0 ∨ k = 1 ∨ k = 2 := by omega
  rcases this with rfl | rfl | rfl
  · exact ⟨x0, x1⟩
  · show 0 ≤ 100000000000000 - x ∧ 100000000000000 - x ≤ 100000000000000
    omega
  · show (0 : Int) ≤ 1 ∧ (1 : Int) ≤ 100000000000000
    omega

set_option maxHeartbeats 4000000 in
set_option maxRecDepth 100000 in
theorem walk (w : World) (a0 : Int) (w0 : (Lit.int .i64 a0).wf = true) (a1 : Int) (w1 : (Lit.int .i64 a1).wf = true) (a2 : Int) (w2 : (Lit.int .i64 a2).wf = true) :
    Calls Try.prog 9 #[.int .i64 a0, .int .i64 a1, .int .i64 a2] w fun e w' => e = .returned (.bool true) ∧ Below w.heap.size w w' := by
  clear w0 w1 w2
  go_enter Try.func9, Try.ntmps9
  go_wp2_with fail
  refine (Mn.mod64_any _ _ _ (by omega) (by omega)).mono ?_
  rintro e w1 ⟨⟨t, t0, t1, rfl⟩, rfl⟩
  go_wp2_with fail
  refine (Mn.mod64_any _ _ _ (by omega) (by omega)).mono ?_
  rintro e w1 ⟨⟨x, x0, x1, rfl⟩, rfl⟩
  go_wp2_with fail
  refine (Mn.mod_any _ _ _ (by omega) (by omega)).mono ?_
  rintro e w1 ⟨⟨m, m0, m1, rfl⟩, rfl⟩
  obtain ⟨p, q, hpq, hsum, p0, q0⟩ := larg2 t x t0 (by omega) x0 (by omega)
  have HL := Lib.hid (Sh.largest_any t (some ⟨w.heap.size, 0, none⟩) 2 2 (Sh.nth [x, 100000000000000 - x]) (w.alloc (.cells #[.int .i64 x, .int .i64 (100000000000000 - x)] 2)) (Sh.RowAt.ints (l := [x, 100000000000000 - x]) (Qu.Blk.new _ _ _)))
  rw [hpq] at HL
  have HS := Lib.hid hsum
  clear hpq hsum
  go_wp2_with fail
  refine HL.out.mono ?_
  rintro e w2 ⟨A, c, rfl, hi, hb⟩
  have HB2 := Lib.hid (((Below.refl w.heap.size w).alloc (Nat.le_refl _) (.cells #[.int .i64 x, .int .i64 (100000000000000 - x)] 2)).trans (hb.mono (by simp)))
  have HI2 := Lib.hid hi
  have HL3 := Lib.hid (Sh.largest_any t (some ⟨w2.heap.size, 0, none⟩) 3 3 (Sh.nth [x, 100000000000000 - x, 1]) (w2.alloc (.cells #[.int .i64 x, .int .i64 (100000000000000 - x), .int .i64 1] 2)) (Sh.RowAt.ints (l := [x, 100000000000000 - x, 1]) (Qu.Blk.new _ _ _)))
  rw [larg3 t x t0 (by omega) x0 (by omega)] at HL3
  clear hi hb HL
  go_wp2_with fail
  refine HL3.out.mono ?_
  rintro e w3 ⟨A3, c3, rfl, _, hb⟩
  have hw3 : Below w2.heap.size w2 w3 := ((Below.refl w2.heap.size w2).alloc (Nat.le_refl _) _).trans (hb.mono (by simp))
  have HB3 := Lib.hid (HB2.out.trans (hw3.mono HB2.out.size))
  have HI3 := Lib.hid (HI2.out.below hw3 (Nat.le_refl _)).size
  have U1 := Lib.hid (fun w => Sh.upto_is t (1 + m) (1 + m) w t0 (by omega) (by omega) (by omega) (by omega) (by omega))
  have U2 := Lib.hid (fun w => Sh.upto_is t (1 + m) 0 w t0 (by omega) (by omega) (by omega) (by omega) (by omega))
  have U3 := Lib.hid (fun w => Sh.upto_not t (1 + m) (1 + m + 1) w (by omega))
  have U4 := Lib.hid (fun w => Sh.upto_not t 100001 1 w (by omega))
  have U5 := Lib.hid (fun w => Sh.piece_gt t (1 + m) (1 + m) (1 + m - 1) w (by omega))
  rw [Int.mul_ediv_cancel _ (show (1 + m) ≠ 0 by omega)] at U1
  rw [Int.mul_zero, Int.zero_ediv] at U2
  clear hw3 hb HL3 HB2 HI2
  obtain ⟨n, hn⟩ : ∃ n, n = 1 + m := ⟨_, rfl⟩
  rw [← hn] at U1 U2 U3 U5 ⊢
  have n0 : 1 ≤ n := by omega
  have n1 : n ≤ 100000 := by omega
  clear hn m0 m1
  go_wp2_with fail
  refine (U1.out _).mono ?_
  rintro e w4 ⟨rfl, hb⟩
  have HB4 := Lib.hid (HB3.out.trans (hb.mono HB3.out.size))
  have HI4 := Lib.hid (HI3.out.below hb (Nat.le_refl _)).size
  clear hb HB3 HI3
  go_wp2_with fail
  refine (U2.out _).mono ?_
  rintro e w5 ⟨rfl, hb⟩
  have HB5 := Lib.hid (HB4.out.trans (hb.mono HB4.out.size))
  have HI5 := Lib.hid (HI4.out.below hb (Nat.le_refl _)).size
  clear hb HB4 HI4
  go_wp2_with fail
  refine (U3.out _).mono ?_
  rintro e w6 ⟨rfl, hb⟩
  have HB6 := Lib.hid (HB5.out.trans (hb.mono HB5.out.size))
  have HI6 := Lib.hid (HI5.out.below hb (Nat.le_refl _)).size
  clear hb HB5 HI5
  go_wp2_with fail
  refine (U4.out _).mono ?_
  rintro e w7 ⟨rfl, hb⟩
  have HB7 := Lib.hid (HB6.out.trans (hb.mono HB6.out.size))
  have HI7 := Lib.hid (HI6.out.below hb (Nat.le_refl _)).size
  clear hb HB6 HI6
  go_wp2_with fail
  refine (U5.out _).mono ?_
  rintro e w8 ⟨rfl, hb⟩
  have HB8 := Lib.hid (HB7.out.trans (hb.mono HB7.out.size))
  have hi8 := (HI7.out.below hb (Nat.le_refl _)).size
  obtain ⟨b, o, rfl, hb8, k0⟩ := hi8 0 (by simp)
  obtain ⟨b', o', hAA, _, k1⟩ := hi8 1 (by simp)
  cases hAA
  have c0 : w8.cell? ⟨b, o, none⟩ = some (.int .i64 p) := k0
  have c1 : w8.cell? ⟨b, o + 1, none⟩ = some (.int .i64 q) := k1
  clear k0 k1 hb HB7 HI7 hi8 U1 U2 U3 U4 U5
  obtain rfl : p + q = t := HS.out
  have hw : IntKind.i64.wrap (p + q) = p + q := by rw [IntKind.wrap_i64]; omega
  have bt : (p + q == p + q) = true := by simp
  clear HS
  go_wp2_with fail
  go_region_held3 (fun u => u.cell? ⟨b, o, none⟩ = some (.int .i64 p) ∧ u.cell? ⟨b, o + 1, none⟩ = some (.int .i64 q))
    (first
      | go_keep
      | (go_split_ands
         refine ⟨?_, ?_⟩ <;> (rw [hb9.cell (by simp; omega)]; assumption)))
    (first | (go_at_call 10; refine (Sh.awake3 _).mono ?_; rintro e w9 ⟨rfl, hb9⟩))
  go_wp2
  all_goals
    go_ret
    exact ⟨rfl, HB8.out.drew.trans (hb9.mono HB8.out.size)⟩


set_option maxRecDepth 100000 in
theorem lifted (os : Os) (started : os.Started) (H : Type) (enc : TypeId × Value → H) :
    ReturnsInHanded {} Try.checked os 9 .any (Rows.shareEdgesSpec.pre6 enc Try.prog Try.f9 Rows.shareEdgesRow.domain false) (Rows.shareEdgesSpec.post enc Try.prog Try.f9 false true false false) := by
  refine returnsInHanded_of_change (C := Try.checked) own started (by kernel_rfl) Try.func9
    (ChangeSpec.witness6 (enc := enc) (C := Try.checked) false ⟨#[], #[.int .i64 0, .int .i64 0, .int .i64 0], []⟩ 8 (by kernel_rfl) (by kernel_rfl) (by kernel_rfl) (by kernel_rfl)) ?_
  intro W base args ds gs before hval0 hW hcnd _
  have hval : ∀ (j : Nat) t v, Try.f9.params[j]? = some t → args[j]? = some v → Value.okWide Try.prog W .any base t v := hval0
  have hW' := hW
  obtain ⟨p, q, hA0, hV, rfl, hfz, hnd⟩ := hW
  have hA : DataW.TrodAll enc Try.prog W 0 (fun _ => true) true Try.f9.params.toList args.toList ds p := hA0
  rw [Try.params9] at hA hval
  obtain ⟨v0, vs0, d0, ds0, p0, q0, hargs, rfl, rfl, h0, r0⟩ := trodAll_cons hA
  obtain ⟨v1, vs1, d1, ds1, p1, q1, rfl, rfl, rfl, h1, r1⟩ := trodAll_cons r0
  obtain ⟨v2, vs2, d2, ds2, p2, q2, rfl, rfl, rfl, h2, r2⟩ := trodAll_cons r1
  obtain ⟨rfl, rfl, rfl⟩ := trodAll_nil r2
  obtain rfl : args = #[v0, v1, v2] := by cases args; simp_all
  obtain ⟨a0, rfl, _, _, w0⟩ := open_int Try.underlying2 (hval 0 2 v0 rfl rfl) h0
  obtain ⟨a1, rfl, _, _, w1⟩ := open_int Try.underlying2 (hval 1 2 v1 rfl rfl) h1
  obtain ⟨a2, rfl, _, _, w2⟩ := open_int Try.underlying3 (hval 2 3 v2 rfl rfl) h2
  refine (walk W a0 w0 a1 w1 a2 w2).mono fun e W' ⟨he, hb⟩ => ?_
  subst he
  exact ⟨_, rfl, Hk.closeLaw (tb := 4) (by kernel_rfl) (by kernel_rfl) rfl rfl rfl Try.underlying4 hW' hb⟩

theorem over : Rows.shareEdgesRow.holds Try.pinned (OpenSpec.ofChange Rows.shareEdgesSpec) :=
  OpenClaim.holds_of_wide 9 Try.f9 rfl rfl rfl rfl rfl rfl rfl ⟨rfl, rfl, rfl, rfl, rfl⟩ rfl rfl rfl rfl rfl (by kernel_rfl) Try.func9 (by kernel_rfl)
    (of_decide_eq_true (by kernel_rfl)) (by unfold Func.isWrapper; first | (rw [if_pos (by decide +kernel)]; kernel_rfl) | (rw [if_neg (by decide +kernel)]; exact ⟨rfl, rfl⟩))
    (fun os started H enc _ => lifted os started H enc)

/-- The statement. -/
theorem proved : Rows.ShareEdgesSaid :=
  over
end Go.Proofs.Ytmnbamfemcgloaa.shareEdges
