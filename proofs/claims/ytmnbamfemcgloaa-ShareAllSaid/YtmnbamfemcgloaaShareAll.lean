/- P3.1: Largest of any right total and any weights, small ones or great ones, answers what the document says; for every int64, every slice of int64, and both kinds of weights. No conditions. -/
import Derived.Test.YtmnbamfemcgloaaShF
import Derived.Test.YtmnbamfemcgloaaShU
import Derived.Test.YtmnbamfemcgloaaKitC
namespace Go.Proofs.Ytmnbamfemcgloaa.shareAll
open Go.ChangeShapes Go.WideShapes Go.ChangeAt Go.RowKit
set_option linter.unusedVariables false

theorem own : ownKnob Try.prog.godebug = none := by kernel_rfl

set_option maxHeartbeats 1000000 in
theorem walk (w : World) (a0 : Int) (w0 : (Lit.int .i64 a0).wf = true) (A : Option Addr) (n c : Nat) (f : Nat → Int) (ha : Hl.Ints w w.heap.size A n f) (hn : n ≤ 9223372036854775807) (hf : ∀ k, k < n → -9223372036854775808 ≤ f k ∧ f k ≤ 9223372036854775807) (g : Bool) :
    Calls Try.prog 4 #[.int .i64 a0, .slice A n c, .bool g] w fun e w' => e = .returned (.bool true) ∧ Below w.heap.size w w' := by
  have HM : Hid (∀ most w, 1 ≤ most → most ≤ 9223372036854775807 → Hl.Ints w w.heap.size A n f → Calls Try.prog 21 #[.slice A n c, .int .i64 most] w fun e w' => Sh.Weighed e w w' most) := Lib.hid (fun most w m0 m1 ha => Sh.weights_any A n c f most w ha hn m0 m1)
  have HA := Lib.hid ha
  clear w0 hf ha hn
  cases g
  all_goals
    go_enter Try.func4, Try.ntmps4
    go_wp2_with fail
    refine (Mn.mod64_any _ _ _ (by omega) (by omega)).mono ?_
    rintro e w1 ⟨⟨t, t0, t1, rfl⟩, rfl⟩
    go_wp2_with fail
    refine (HM.out _ _ (by omega) (by omega) HA.out).mono ?_
    rintro e w1 ⟨A1, m, c1, g, rfl, hi, hm, hg, hb⟩
    have HI := Lib.hid hi
    have HB := Lib.hid hb
    have HL := Lib.hid (Sh.largest_any t A1 m c1 g w1 hi)
    have HE := Lib.hid (Sh.larg_length t g m)
    have HR := Lib.hid (fun w2 (hb : Below w1.heap.size w1 w2) => Sh.rlargest_any t A1 m c1 g w2 (hi.below hb (Nat.le_refl _)).size)
    clear hi hb hg
    generalize Sh.largR t g m = p at *
    obtain ⟨l, x⟩ := p
    go_wp2_with fail
    refine HL.out.mono ?_
    rintro e w2 ⟨A2, c2, rfl, hi2, hb2⟩
    have HI2 := Lib.hid hi2
    have HB2 := Lib.hid hb2
    clear hi2 hb2
    go_wp2_with fail
    refine (HR.out _ HB2.out).mono ?_
    rintro e w3 ⟨A3, c3, rfl, hi3, hb3⟩
    have HI3 := Lib.hid (And.intro ((HI2.out.below hb3 (Nat.le_refl _)).size) hi3)
    have HB3 := Lib.hid ((HB.out.trans (HB2.out.mono HB.out.size)).trans (hb3.mono (Nat.le_trans HB.out.size HB2.out.size)))
    clear hi3 hb3
    go_wp2_with fail
    refine (Sh.awake3 _).mono ?_
    rintro e w4 ⟨rfl, hb4⟩
    have HP := Lib.hid (Hl.plain_int64 A2 A3 l.length l.length c2 c3 _ _ w4.heap.size w4 (HI3.out.1.below hb4 (Nat.le_refl _)).size (HI3.out.2.below hb4 (Nat.le_refl _)).size (by have : l.length ≤ m := HE.out; unfold maxLen; omega) (by have : l.length ≤ m := HE.out; unfold maxLen; omega))
    rw [Hl.eqB_yes (fun k hk => rfl)] at HP
    have HB4 := Lib.hid (HB3.out.trans (hb4.mono HB3.out.size))
    clear hb4
    go_wp2_with fail
    refine HP.out.mono ?_
    rintro e w5 ⟨rfl, hD⟩
    have HB5 := Lib.hid (HB4.out.trans ((hD.below w4.heap.size).mono HB4.out.size))
    clear hD
    go_wp2
    all_goals
      go_ret
      exact ⟨rfl, HB5.out⟩


set_option maxRecDepth 100000 in
theorem lifted (os : Os) (started : os.Started) (H : Type) (enc : TypeId × Value → H) :
    ReturnsInHanded {} Try.checked os 4 .any (Rows.shareAllSpec.pre6 enc Try.prog Try.f4 Rows.shareAllRow.domain false) (Rows.shareAllSpec.post enc Try.prog Try.f4 false true false false) := by
  refine returnsInHanded_of_change (C := Try.checked) own started (by kernel_rfl) Try.func4
    (ChangeSpec.witness6 (enc := enc) (C := Try.checked) false ⟨#[], #[.int .i64 0, .slice none 0 0, .bool false], []⟩ 8 (by kernel_rfl) (by kernel_rfl) (by kernel_rfl) (by kernel_rfl)) ?_
  intro W base args ds gs before hval0 hW hcnd _
  have hval : ∀ (j : Nat) t v, Try.f4.params[j]? = some t → args[j]? = some v → Value.okWide Try.prog W .any base t v := hval0
  have hW' := hW
  obtain ⟨p, q, hA0, hV, rfl, hfz, hnd⟩ := hW
  have hA : DataW.TrodAll enc Try.prog W 0 (fun _ => true) true Try.f4.params.toList args.toList ds p := hA0
  rw [Try.params4] at hA hval
  obtain ⟨v0, vs0, d0, ds0, p0, q0, hargs, rfl, rfl, h0, r0⟩ := trodAll_cons hA
  obtain ⟨v1, vs1, d1, ds1, p1, q1, rfl, rfl, rfl, h1, r1⟩ := trodAll_cons r0
  obtain ⟨v2, vs2, d2, ds2, p2, q2, rfl, rfl, rfl, h2, r2⟩ := trodAll_cons r1
  obtain ⟨rfl, rfl, rfl⟩ := trodAll_nil r2
  obtain rfl : args = #[v0, v1, v2] := by cases args; simp_all
  obtain ⟨a0, rfl, _, _, w0⟩ := open_int Try.underlying2 (hval 0 2 v0 rfl rfl) h0
  obtain ⟨A1, n1, c1, f1, rfl, x1, y1, z1, u1⟩ := Hk.open_ints_at Try.underlying22 Try.underlying2 (by kernel_rfl) (hval 1 22 v1 rfl rfl) h1
  obtain ⟨a2, rfl, _, _⟩ := open_bool Try.underlying4 (hval 2 4 v2 rfl rfl) h2
  refine (walk W a0 w0 A1 n1 c1 f1 x1 y1 z1 a2).mono fun e W' ⟨he, hb⟩ => ?_
  subst he
  exact ⟨_, rfl, Hk.closeLaw (tb := 4) (by kernel_rfl) (by kernel_rfl) rfl rfl rfl Try.underlying4 hW' hb⟩

theorem over : Rows.shareAllRow.holds Try.pinned (OpenSpec.ofChange Rows.shareAllSpec) :=
  OpenClaim.holds_of_wide 4 Try.f4 rfl rfl rfl rfl rfl rfl rfl ⟨rfl, rfl, rfl, rfl, rfl⟩ rfl rfl rfl rfl rfl (by kernel_rfl) Try.func4 (by kernel_rfl)
    (of_decide_eq_true (by kernel_rfl)) (by unfold Func.isWrapper; first | (rw [if_pos (by decide +kernel)]; kernel_rfl) | (rw [if_neg (by decide +kernel)]; exact ⟨rfl, rfl⟩))
    (fun os started H enc _ => lifted os started H enc)

/-- The statement. -/
theorem proved : Rows.ShareAllSaid :=
  over
end Go.Proofs.Ytmnbamfemcgloaa.shareAll
