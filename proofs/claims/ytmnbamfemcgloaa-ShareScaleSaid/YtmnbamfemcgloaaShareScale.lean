/- P3.1: weights that are all so many times as great make the same parts; for every int64 and slice of int64. No conditions. -/
import Derived.Test.YtmnbamfemcgloaaShF
import Derived.Test.YtmnbamfemcgloaaKitC
namespace Go.Proofs.Ytmnbamfemcgloaa.shareScale
open Go.ChangeShapes Go.WideShapes Go.ChangeAt Go.RowKit
set_option linter.unusedVariables false

theorem own : ownKnob Try.prog.godebug = none := by kernel_rfl

theorem larg_grow (t : Int) (g : Nat → Int) (m : Nat) (y : Int) (t0 : 0 ≤ t) (t1 : t ≤ 100000000000000) (hm : m ≤ 60) (hg : ∀ k, k < m → 0 ≤ g k ∧ g k < 1048576) (y0 : 1 ≤ y) (y1 : y ≤ 1000) :
    Sh.largR t (fun k => y * g k) m = Sh.largR t g m := by
  have hb : ∀ k, k < m → 0 ≤ y * g k ∧ y * g k ≤ 1000 * 1048576 := fun k hk => ⟨Int.mul_nonneg (by omega) (hg k hk).1, Int.mul_le_mul y1 (by have := (hg k hk).2; omega) (hg k hk).1 (by omega)⟩
  have s0 := Sh.sumF_nonneg (f := g) m (fun k hk => (hg k hk).1)
  have s1 := Sh.sumF_mono (f := g) (g := fun _ => 1048576) m (fun k hk => by have := (hg k hk).2; omega)
  rw [Sh.sumF_const] at s1
  have e := Sh.sumF_mul y g m
  have s2 : y * Sh.sumF g m ≤ 1000 * (60 * 1048576) := Int.mul_le_mul y1 (by omega) s0 (by omega)
  have hf1 : ∀ k, k < m → 0 ≤ g k ∧ g k ≤ 100000000000000 := fun k hk => by have := hg k hk; omega
  have hf2 : ∀ k, k < m → 0 ≤ (fun k => y * g k) k ∧ (fun k => y * g k) k ≤ 100000000000000 := fun k hk => ⟨(hb k hk).1, by
    have := (hb k hk).2
    show y * g k ≤ 100000000000000
    omega⟩
  have s3 : 0 ≤ y * Sh.sumF g m := Int.mul_nonneg (by omega) s0
  by_cases h : Sh.sumF g m = 0
  · have h' : Sh.sumF (fun k => y * g k) m = 0 := by rw [e, h, Int.mul_zero]
    by_cases hp : 0 < t
    · rw [Sh.larg_none ⟨t0, t1⟩ (by omega) hf1 h hp, Sh.larg_none ⟨t0, t1⟩ (by omega) hf2 h' hp]
    · rw [Sh.larg_zero ⟨t0, t1⟩ (by omega) hf1 h hp, Sh.larg_zero ⟨t0, t1⟩ (by omega) hf2 h' hp]
  · have h1 : 1 ≤ Sh.sumF g m := by omega
    have h2 : Sh.sumF (fun k => y * g k) m ≠ 0 := by rw [e]; exact Int.mul_ne_zero (by omega) h
    rw [Sh.larg_parts ⟨t0, t1⟩ (by omega) hf1 h (by omega), Sh.larg_parts ⟨t0, t1⟩ (by omega) hf2 h2 (by rw [e]; omega), e, Sh.parts_grow t _ y g m y0 h1]

set_option maxHeartbeats 4000000 in
set_option maxRecDepth 100000 in
theorem walk (w : World) (a0 : Int) (w0 : (Lit.int .i64 a0).wf = true) (A : Option Addr) (n c : Nat) (f : Nat → Int) (ha : Hl.Ints w w.heap.size A n f) (hn : n ≤ 9223372036854775807) (hf : ∀ k, k < n → -9223372036854775808 ≤ f k ∧ f k ≤ 9223372036854775807) (a2 : Int) (w2 : (Lit.int .i64 a2).wf = true) :
    Calls Try.prog 8 #[.int .i64 a0, .slice A n c, .int .i64 a2] w fun e w' => e = .returned (.bool true) ∧ Below w.heap.size w w' := by
  obtain ⟨i0, hi0, hz0, hz1, hz2⟩ := info_parts Sh.info_row
  have HM := Lib.hid (Sh.weights_any A n c f 1048576 w ha hn (by omega) (by omega))
  clear w0 hf w2 ha hn
  go_enter Try.func8, Try.ntmps8
  go_wp2_with fail
  refine (Mn.mod64_any _ _ _ (by omega) (by omega)).mono ?_
  rintro e w1 ⟨⟨t, t0, t1, rfl⟩, rfl⟩
  go_wp2_with fail
  refine (Mn.mod64_any _ _ _ (by omega) (by omega)).mono ?_
  rintro e w1 ⟨⟨r, r0, r1, rfl⟩, rfl⟩
  obtain ⟨y, hy⟩ : ∃ y, y = 1 + r := ⟨_, rfl⟩
  have y0 : 1 ≤ y := by omega
  have y1 : y ≤ 1000 := by omega
  have ey : 1 + r = y := hy.symm
  clear hy
  go_wp2_with fail
  refine HM.out.mono ?_
  rintro e w1 ⟨A1, m, c1, g, rfl, hi, hm, hg, hb⟩
  have HI := Lib.hid (And.intro hi hg)
  have HB := Lib.hid hb
  have m6 : (m : Int) ≤ 60 := by omega
  clear hi hb hg r0 r1 ey
  go_wp2
  go_loopw [8, 9] (fun v s wr => ∃ (i : Nat) (A' : Option Addr) (c' : Nat), v = .slice A' i c' ∧ s = .int .i64 i ∧ i ≤ m ∧ Sh.Wts w1 wr (.slice A' i c') i 100000000000000 ((List.range i).map fun k => g k * y)) (fun _ s _ => m - (intOf s).toNat)
  case atStart => exact ⟨0, none, 0, rfl, rfl, by omega, ⟨World.ownsRow_nil _ _ _ _, Below.refl _ _, fun x hx => by cases hx⟩⟩
  case round =>
    obtain ⟨i, A', c', rfl, rfl, hi, hW⟩ := hrel
    have k0 : (0 : Int) ≤ (i : Int) := by omega
    by_cases hlt : i < m
    · have k1 : (i : Int) < (m : Int) := by omega
      obtain ⟨b, o, rfl, hbm, h1⟩ := HI.out.1 i hlt
      have cc : wr.cell? ⟨b, o + i, none⟩ = some (.int .i64 (g i)) := (hW.below.cell (p := ⟨b, o + i, none⟩) hbm).trans h1
      have g0 := (HI.out.2 i hlt).1
      have g1 := (HI.out.2 i hlt).2
      have q0 : 0 ≤ g i * y := Int.mul_nonneg g0 (by omega)
      have q1 : g i * y ≤ 1048576 * 1000 := Int.mul_le_mul (by omega) y1 (by omega) (by omega)
      have HW := Lib.hid hW
      clear h1 hW
      go_wp2_with ((at_builtin; refine wpList_append_lies _ rfl _ _ 22 rfl w1.heap.size 2 i0 _ 1 8 Try.underlying22 hi0 hz0 hz1 hz2 rfl (by omega) _ _ _ rfl (HW.out.own.alloc _) ⟨wr.heap.size, 0, none⟩ 1 1 [.int .i64 (g i * y)] rfl rfl (World.news_of_block (cs := #[.int .i64 (g i * y)]) (t := 2) (fr := (0, 0)) (heap_alloc_new wr _)) (by simp [Value.oneCell']) (by omega) (by unfold maxLen; omega) (by omega) (by have := HW.out.below.size; simp; omega) (wr.heap.size + 1) (by simp) ?_; intro g2 cp w4 hown hgrow hat hlt2))
      have HW4 : Hid (Sh.Wts w1 w4 (.slice (some ⟨g2, 0, none⟩) (i + 1) cp) (i + 1) 100000000000000 ((List.range (i + 1)).map fun k => g k * y)) := Lib.hid (by
        have hB := HW.out.below
        rw [List.range_succ, List.map_append]
        refine ⟨?_, (hB.alloc hB.size _).grown hgrow (by have := hB.size; simp; omega) fun j hj => (HW.out.own.lt j hj).1, ?_⟩
        · rw [List.map_append]; exact hown
        · intro z hz
          rcases List.mem_append.1 hz with h | h
          · exact HW.out.small z h
          · rcases List.mem_singleton.1 h with rfl
            show 0 ≤ g i * y ∧ g i * y < 100000000000000
            exact ⟨q0, by omega⟩)
      clear hown hgrow hat hlt2
      go_wp2
      go_roundw
      case rel => exact ⟨i + 1, some ⟨g2, 0, none⟩, cp, by trivial, by go_num, by omega, HW4.out⟩
      case measure => simp [intOf]; omega
    · obtain rfl : i = m := by omega
      have k1 : ¬ (i : Int) < (i : Int) := by omega
      have hi1 := (HI.out.1.below hW.below (Nat.le_refl _)).size
      have hi2 : Hl.Ints wr wr.heap.size A' i (fun k => y * g k) := (Hl.Ints.own hW.own).congr fun k hk => by
        unfold Hl.at_
        simp [List.getD, hk, Int.mul_comm]
      have HL := Lib.hid (Sh.largest_any t A1 i c1 g wr hi1)
      have HR := Lib.hid (fun w2 (hb : Below wr.heap.size wr w2) => Sh.largest_any t A' i c' (fun k => y * g k) w2 (hi2.below hb (Nat.le_refl _)).size)
      rw [larg_grow t g i y t0 (by omega) hm HI.out.2 y0 y1] at HR
      have HE := Lib.hid (Sh.larg_length t g i)
      have HBr := Lib.hid (HB.out.trans (hW.below.mono HB.out.size))
      clear hi1 hi2 hW
      generalize Sh.largR t g i = p at *
      obtain ⟨l, x⟩ := p
      go_wp2_with fail
      refine HL.out.mono ?_
      rintro e w2 ⟨A2, c2, rfl, hi2, hb2⟩
      have HI2 := Lib.hid hi2
      have HB2 := Lib.hid hb2
      clear hi2 hb2
      go_wp2_with fail
      refine (HR.out _ HB2.out).mono ?_
      rintro e w3 ⟨A3, c3, rfl, hi3, hb3⟩
      have HI3 := Lib.hid (And.intro ((HI2.out.below hb3 (Nat.le_refl _)).size) hi3)
      have HB3 := Lib.hid ((HBr.out.trans (HB2.out.mono HBr.out.size)).trans (hb3.mono (Nat.le_trans HBr.out.size HB2.out.size)))
      clear hi3 hb3
      go_wp2_with fail
      refine (Sh.awake3 _).mono ?_
      rintro e w4 ⟨rfl, hb4⟩
      have HP := Lib.hid (Hl.plain_int64 A2 A3 l.length l.length c2 c3 _ _ w4.heap.size w4 (HI3.out.1.below hb4 (Nat.le_refl _)).size (HI3.out.2.below hb4 (Nat.le_refl _)).size (by have : l.length ≤ i := HE.out; unfold maxLen; omega) (by have : l.length ≤ i := HE.out; unfold maxLen; omega))
      rw [Hl.eqB_yes (fun k hk => rfl)] at HP
      have HB4 := Lib.hid (HB3.out.trans (hb4.mono HB3.out.size))
      clear hb4
      go_wp2_with fail
      refine HP.out.mono ?_
      rintro e w5 ⟨rfl, hD⟩
      have HB5 := Lib.hid (HB4.out.trans ((hD.below w4.heap.size).mono HB4.out.size))
      clear hD
      go_wp2
      all_goals
        go_ret
        exact ⟨rfl, HB5.out⟩


set_option maxRecDepth 100000 in
theorem lifted (os : Os) (started : os.Started) (H : Type) (enc : TypeId × Value → H) :
    ReturnsInHanded {} Try.checked os 8 .any (Rows.shareScaleSpec.pre6 enc Try.prog Try.f8 Rows.shareScaleRow.domain false) (Rows.shareScaleSpec.post enc Try.prog Try.f8 false true false false) := by
  refine returnsInHanded_of_change (C := Try.checked) own started (by kernel_rfl) Try.func8
    (ChangeSpec.witness6 (enc := enc) (C := Try.checked) false ⟨#[], #[.int .i64 0, .slice none 0 0, .int .i64 0], []⟩ 8 (by kernel_rfl) (by kernel_rfl) (by kernel_rfl) (by kernel_rfl)) ?_
  intro W base args ds gs before hval0 hW hcnd _
  have hval : ∀ (j : Nat) t v, Try.f8.params[j]? = some t → args[j]? = some v → Value.okWide Try.prog W .any base t v := hval0
  have hW' := hW
  obtain ⟨p, q, hA0, hV, rfl, hfz, hnd⟩ := hW
  have hA : DataW.TrodAll enc Try.prog W 0 (fun _ => true) true Try.f8.params.toList args.toList ds p := hA0
  rw [Try.params8] at hA hval
  obtain ⟨v0, vs0, d0, ds0, p0, q0, hargs, rfl, rfl, h0, r0⟩ := trodAll_cons hA
  obtain ⟨v1, vs1, d1, ds1, p1, q1, rfl, rfl, rfl, h1, r1⟩ := trodAll_cons r0
  obtain ⟨v2, vs2, d2, ds2, p2, q2, rfl, rfl, rfl, h2, r2⟩ := trodAll_cons r1
  obtain ⟨rfl, rfl, rfl⟩ := trodAll_nil r2
  obtain rfl : args = #[v0, v1, v2] := by cases args; simp_all
  obtain ⟨a0, rfl, _, _, w0⟩ := open_int Try.underlying2 (hval 0 2 v0 rfl rfl) h0
  obtain ⟨A1, n1, c1, f1, rfl, x1, y1, z1, u1⟩ := Hk.open_ints_at Try.underlying22 Try.underlying2 (by kernel_rfl) (hval 1 22 v1 rfl rfl) h1
  obtain ⟨a2, rfl, _, _, w2⟩ := open_int Try.underlying2 (hval 2 2 v2 rfl rfl) h2
  refine (walk W a0 w0 A1 n1 c1 f1 x1 y1 z1 a2 w2).mono fun e W' ⟨he, hb⟩ => ?_
  subst he
  exact ⟨_, rfl, Hk.closeLaw (tb := 4) (by kernel_rfl) (by kernel_rfl) rfl rfl rfl Try.underlying4 hW' hb⟩

theorem over : Rows.shareScaleRow.holds Try.pinned (OpenSpec.ofChange Rows.shareScaleSpec) :=
  OpenClaim.holds_of_wide 8 Try.f8 rfl rfl rfl rfl rfl rfl rfl ⟨rfl, rfl, rfl, rfl, rfl⟩ rfl rfl rfl rfl rfl (by kernel_rfl) Try.func8 (by kernel_rfl)
    (of_decide_eq_true (by kernel_rfl)) (by unfold Func.isWrapper; first | (rw [if_pos (by decide +kernel)]; kernel_rfl) | (rw [if_neg (by decide +kernel)]; exact ⟨rfl, rfl⟩))
    (fun os started H enc _ => lifted os started H enc)

/-- The statement. -/
theorem proved : Rows.ShareScaleSaid :=
  over
end Go.Proofs.Ytmnbamfemcgloaa.shareScale
