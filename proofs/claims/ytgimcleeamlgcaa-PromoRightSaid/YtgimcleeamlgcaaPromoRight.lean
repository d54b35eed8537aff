/- P12.1: whether any promo, or one near to it, may be; for every promo, number and flag. No conditions. -/
import Derived.Test.YtgimcleeamlgcaaPmZ
import Derived.Test.YtgimcleeamlgcaaBa
set_option maxRecDepth 100000
namespace Go.Proofs.Ytgimcleeamlgcaa.promoRight
open Go.ChangeShapes Go.WideShapes Go.ChangeAt Go.RowKit
open Ap (Scp Prt Tir Prm kPrm row_Prm)
open Kd (Kind Row Own Cells Fit Agree Lst Sl kStr kInt kList row_str Deep)
set_option maxRecDepth 100000
set_option linter.unusedVariables false

theorem own : ownKnob Try.prog.godebug = none := by kernel_rfl

theorem walk (w : World) (p : Prm) (l : Prm.Lay) (h0 : Ap.Prm.Holds w (· < w.heap.size) p l) (a1 : Int) (w1 : (Lit.int .i64 a1).wf = true) (a2 : Bool) :
    Calls Try.prog 3 #[.agg #[.string p.id, .int .i64 p.kind, .int .i64 p.priority, .string p.group, .string p.code, .bool p.closes, .slice l.scope.skus.A l.scope.skus.n l.scope.skus.c, .slice l.scope.cats.A l.scope.cats.n l.scope.cats.c, .int .i64 p.least, .int .i64 p.rate, .int .i64 p.amount, .int .i64 p.buy, .int .i64 p.get, .slice l.parts.A l.parts.n l.parts.c, .slice l.tiers.A l.tiers.n l.tiers.c], .int .i64 a1, .bool a2] w fun e w' => e = .returned (.bool true) ∧ Below w.heap.size w w' := by
  obtain ⟨W1, hW1⟩ : ∃ W1, w.alloc (.cells #[.string p.id, .int .i64 p.kind, .int .i64 p.priority, .string p.group, .string p.code, .bool p.closes, .slice l.scope.skus.A l.scope.skus.n l.scope.skus.c, .slice l.scope.cats.A l.scope.cats.n l.scope.cats.c, .int .i64 p.least, .int .i64 p.rate, .int .i64 p.amount, .int .i64 p.buy, .int .i64 p.get, .slice l.parts.A l.parts.n l.parts.c, .slice l.tiers.A l.tiers.n l.tiers.c] 28) = W1 := ⟨_, rfl⟩
  have hb1 : Below w.heap.size w W1 := by rw [← hW1]; exact (Below.refl _ _).alloc (Nat.le_refl _) _
  have hblk : Qu.Blk W1 w.heap.size 28 #[.string p.id, .int .i64 p.kind, .int .i64 p.priority, .string p.group, .string p.code, .bool p.closes, .slice l.scope.skus.A l.scope.skus.n l.scope.skus.c, .slice l.scope.cats.A l.scope.cats.n l.scope.cats.c, .int .i64 p.least, .int .i64 p.rate, .int .i64 p.amount, .int .i64 p.buy, .int .i64 p.get, .slice l.parts.A l.parts.n l.parts.c, .slice l.tiers.A l.tiers.n l.tiers.c] := by rw [← hW1]; exact Qu.Blk.new w _ _
  have HFW := Lib.hid (Pm.few_any p l W1 (Pr.holds_later h0 hb1))
  have HBx : Hid (Pm.Slight p → Pm.Boxed w W1 w.heap.size p l) := Lib.hid fun hs => by rw [← hW1]; exact Pm.Boxed.begin h0 hs
  have HB1 := Lib.hid (And.intro hb1 hblk)
  have x0 := hblk.cell 0
  have x1 := hblk.cell 1
  have x2 := hblk.cell 2
  have x3 := hblk.cell 3
  have x4 := hblk.cell 4
  have x5 := hblk.cell 5
  have x6 := hblk.cell 6
  have x7 := hblk.cell 7
  have x8 := hblk.cell 8
  have x9 := hblk.cell 9
  have x10 := hblk.cell 10
  have x11 := hblk.cell 11
  have x12 := hblk.cell 12
  have x13 := hblk.cell 13
  have x14 := hblk.cell 14
  clear h0 hb1 hblk
  go_enter Try.func3, Try.ntmps3
  go_wp2_with fail
  clear hW1
  refine HFW.out.mono ?_
  rintro e w2 ⟨b, rfl, hfew, hb2⟩
  cases b with
  | false =>
    have HA := Lib.hid (Pm.awake_any w2)
    have HB := Lib.hid (HB1.out.1.trans (hb2.mono HB1.out.1.size))
    clear hb2 hfew HFW HBx x0 x1 x2 x3 x4 x5 x6 x7 x8 x9 x10 x11 x12 x13 x14
    go_wp2_with fail
    refine HA.out.mono ?_
    rintro e w3 ⟨rfl, hb3⟩
    have HB3 := Lib.hid (HB.out.trans (hb3.mono HB.out.size))
    clear hb3
    go_wp2
    go_ret
    exact ⟨rfl, HB3.out⟩
  | true =>
    have HS := Lib.hid (hfew rfl).slight
    have HX := Lib.hid ((HBx.out HS.out).later hb2)
    clear hb2 hfew HFW HBx HB1 x0 x1 x2 x3 x4 x5 x6 x7 x8 x9 x10 x11 x12 x13 x14
    cases a2 with
    | false =>
      have HR := Lib.hid HX.out.right
      obtain ⟨r, hr⟩ : ∃ r, Pr.promoB p = r := ⟨_, rfl⟩
      have HRR := Lib.hid (fun W (h : Pm.Boxed w W w.heap.size p l) => h.rright)
      simp only [hr] at HR HRR
      have e1 : (r == r) = true := by cases r <;> rfl
      clear hr
      have x0 := HX.out.blk.cell 0
      have x1 := HX.out.blk.cell 1
      have x2 := HX.out.blk.cell 2
      have x3 := HX.out.blk.cell 3
      have x4 := HX.out.blk.cell 4
      have x5 := HX.out.blk.cell 5
      have x6 := HX.out.blk.cell 6
      have x7 := HX.out.blk.cell 7
      have x8 := HX.out.blk.cell 8
      have x9 := HX.out.blk.cell 9
      have x10 := HX.out.blk.cell 10
      have x11 := HX.out.blk.cell 11
      have x12 := HX.out.blk.cell 12
      have x13 := HX.out.blk.cell 13
      have x14 := HX.out.blk.cell 14
      go_wp2_with fail
      refine HR.out.mono ?_
      rintro e w3 ⟨rfl, hb3⟩
      have HX3 := Lib.hid (HX.out.later hb3)
      have HA := Lib.hid (Pm.awake_any w3)
      clear hb3 HR x0 x1 x2 x3 x4 x5 x6 x7 x8 x9 x10 x11 x12 x13 x14
      go_wp2_with fail
      refine HA.out.mono ?_
      rintro e w4 ⟨rfl, hb4⟩
      have HX4 := Lib.hid (HX3.out.later hb4)
      have HR4 := Lib.hid (HRR.out w4 HX4.out)
      clear hb4 HA HX3 HX
      have x0 := HX4.out.blk.cell 0
      have x1 := HX4.out.blk.cell 1
      have x2 := HX4.out.blk.cell 2
      have x3 := HX4.out.blk.cell 3
      have x4 := HX4.out.blk.cell 4
      have x5 := HX4.out.blk.cell 5
      have x6 := HX4.out.blk.cell 6
      have x7 := HX4.out.blk.cell 7
      have x8 := HX4.out.blk.cell 8
      have x9 := HX4.out.blk.cell 9
      have x10 := HX4.out.blk.cell 10
      have x11 := HX4.out.blk.cell 11
      have x12 := HX4.out.blk.cell 12
      have x13 := HX4.out.blk.cell 13
      have x14 := HX4.out.blk.cell 14
      go_wp2_with fail
      refine HR4.out.mono ?_
      rintro e w5 ⟨rfl, hb5⟩
      have HB5 := Lib.hid (HX4.out.later hb5).below
      clear hb5 x0 x1 x2 x3 x4 x5 x6 x7 x8 x9 x10 x11 x12 x13 x14
      go_wp2
      go_ret
      exact ⟨rfl, HB5.out⟩
    | true =>
      have HP := Lib.hid (Py.promo_any p l a1 w2 HX.out.all (HS.out.small HX.out.all))
      have x0 := HX.out.blk.cell 0
      have x1 := HX.out.blk.cell 1
      have x2 := HX.out.blk.cell 2
      have x3 := HX.out.blk.cell 3
      have x4 := HX.out.blk.cell 4
      have x5 := HX.out.blk.cell 5
      have x6 := HX.out.blk.cell 6
      have x7 := HX.out.blk.cell 7
      have x8 := HX.out.blk.cell 8
      have x9 := HX.out.blk.cell 9
      have x10 := HX.out.blk.cell 10
      have x11 := HX.out.blk.cell 11
      have x12 := HX.out.blk.cell 12
      have x13 := HX.out.blk.cell 13
      have x14 := HX.out.blk.cell 14
      have xf := HX.out.blk.frozen
      go_wp2_with fail
      refine HP.out.mono ?_
      rintro e w3 ⟨q, m, rfl, hq1, hq2, hq3, hq4⟩
      obtain ⟨W4, hW4⟩ : ∃ W4, (World.setCell (World.setCell (World.setCell (World.setCell (World.setCell (World.setCell (World.setCell (World.setCell (World.setCell (World.setCell (World.setCell (World.setCell (World.setCell (World.setCell (World.setCell w3 ⟨w.heap.size, 0, none⟩ (.string q.id)) ⟨w.heap.size, 1, none⟩ (.int .i64 q.kind)) ⟨w.heap.size, 2, none⟩ (.int .i64 q.priority)) ⟨w.heap.size, 3, none⟩ (.string q.group)) ⟨w.heap.size, 4, none⟩ (.string q.code)) ⟨w.heap.size, 5, none⟩ (.bool q.closes)) ⟨w.heap.size, 6, none⟩ (.slice m.scope.skus.A m.scope.skus.n m.scope.skus.c)) ⟨w.heap.size, 7, none⟩ (.slice m.scope.cats.A m.scope.cats.n m.scope.cats.c)) ⟨w.heap.size, 8, none⟩ (.int .i64 q.least)) ⟨w.heap.size, 9, none⟩ (.int .i64 q.rate)) ⟨w.heap.size, 10, none⟩ (.int .i64 q.amount)) ⟨w.heap.size, 11, none⟩ (.int .i64 q.buy)) ⟨w.heap.size, 12, none⟩ (.int .i64 q.get)) ⟨w.heap.size, 13, none⟩ (.slice m.parts.A m.parts.n m.parts.c)) ⟨w.heap.size, 14, none⟩ (.slice m.tiers.A m.tiers.n m.tiers.c)) = W4 := ⟨_, rfl⟩
      have HQ : Hid (Pm.Boxed w W4 w.heap.size q m) := Lib.hid (by rw [← hW4]; exact HX.out.put hq4 ⟨by have := hq3.1; omega, by have := hq3.2.1; omega, fun k x hx => by have := hq3.2.2.2.2 k x hx; omega, by have := hq3.2.2.2.1; omega, by have := hq3.2.2.1; omega⟩)
      have HY := Lib.hid hq1
      have hbk := HX.out.blk.below hq4.below
      clear hq1 hq2 hq3 x0 x1 x2 x3 x4 x5 x6 x7 x8 x9 x10 x11 x12 x13 x14 xf HP
      have x0 := hbk.cell 0
      have x1 := hbk.cell 1
      have x2 := hbk.cell 2
      have x3 := hbk.cell 3
      have x4 := hbk.cell 4
      have x5 := hbk.cell 5
      have x6 := hbk.cell 6
      have x7 := hbk.cell 7
      have x8 := hbk.cell 8
      have x9 := hbk.cell 9
      have x10 := hbk.cell 10
      have x11 := hbk.cell 11
      have x12 := hbk.cell 12
      have x13 := hbk.cell 13
      have x14 := hbk.cell 14
      have xf := hbk.frozen
      clear hq4 hbk
      unfold Ap.Prm.enc
      have HR := Lib.hid HQ.out.right
      have HRR := Lib.hid (fun W (h : Pm.Boxed w W w.heap.size q m) => h.rright)
      rw [HY.out] at HR
      simp only [HY.out] at HRR
      have HW4 := Lib.hid hW4
      clear hW4
      go_upto_region 5 with (fail)
      rw [HW4.out]
      clear HW4 HX x0 x1 x2 x3 x4 x5 x6 x7 x8 x9 x10 x11 x12 x13 x14 xf
      have x0 := HQ.out.blk.cell 0
      have x1 := HQ.out.blk.cell 1
      have x2 := HQ.out.blk.cell 2
      have x3 := HQ.out.blk.cell 3
      have x4 := HQ.out.blk.cell 4
      have x5 := HQ.out.blk.cell 5
      have x6 := HQ.out.blk.cell 6
      have x7 := HQ.out.blk.cell 7
      have x8 := HQ.out.blk.cell 8
      have x9 := HQ.out.blk.cell 9
      have x10 := HQ.out.blk.cell 10
      have x11 := HQ.out.blk.cell 11
      have x12 := HQ.out.blk.cell 12
      have x13 := HQ.out.blk.cell 13
      have x14 := HQ.out.blk.cell 14
      go_wp2_with fail
      refine HR.out.mono ?_
      rintro e w5 ⟨rfl, hb5⟩
      have HX5 := Lib.hid (HQ.out.later hb5)
      have HA := Lib.hid (Pm.awake_any w5)
      clear hb5 HR x0 x1 x2 x3 x4 x5 x6 x7 x8 x9 x10 x11 x12 x13 x14
      go_wp2_with fail
      refine HA.out.mono ?_
      rintro e w6 ⟨rfl, hb6⟩
      have HX6 := Lib.hid (HX5.out.later hb6)
      have HR6 := Lib.hid (HRR.out w6 HX6.out)
      clear hb6 HA HX5 HQ
      have x0 := HX6.out.blk.cell 0
      have x1 := HX6.out.blk.cell 1
      have x2 := HX6.out.blk.cell 2
      have x3 := HX6.out.blk.cell 3
      have x4 := HX6.out.blk.cell 4
      have x5 := HX6.out.blk.cell 5
      have x6 := HX6.out.blk.cell 6
      have x7 := HX6.out.blk.cell 7
      have x8 := HX6.out.blk.cell 8
      have x9 := HX6.out.blk.cell 9
      have x10 := HX6.out.blk.cell 10
      have x11 := HX6.out.blk.cell 11
      have x12 := HX6.out.blk.cell 12
      have x13 := HX6.out.blk.cell 13
      have x14 := HX6.out.blk.cell 14
      go_wp2_with fail
      refine HR6.out.mono ?_
      rintro e w7 ⟨rfl, hb7⟩
      have HB7 := Lib.hid (HX6.out.later hb7).below
      clear hb7 x0 x1 x2 x3 x4 x5 x6 x7 x8 x9 x10 x11 x12 x13 x14
      go_wp2
      go_ret
      exact ⟨rfl, HB7.out⟩

set_option maxRecDepth 100000 in
theorem lifted (os : Os) (started : os.Started) (H : Type) (enc : TypeId × Value → H) :
    ReturnsInHanded {} Try.checked os 3 .any (Rows.promoRightSpec.pre6 enc Try.prog Try.f3 Rows.promoRightRow.domain false) (Rows.promoRightSpec.post enc Try.prog Try.f3 false true false false) := by
  refine returnsInHanded_of_change (C := Try.checked) own started (by kernel_rfl) Try.func3
    (ChangeSpec.witness6 (enc := enc) (C := Try.checked) false ⟨#[], #[.agg #[.string ⟨#[]⟩, .int .i64 0, .int .i64 0, .string ⟨#[]⟩, .string ⟨#[]⟩, .bool false, .slice none 0 0, .slice none 0 0, .int .i64 0, .int .i64 0, .int .i64 0, .int .i64 0, .int .i64 0, .slice none 0 0, .slice none 0 0], .int .i64 0, .bool false], []⟩ 8 (by kernel_rfl) (by kernel_rfl) (by kernel_rfl) (by kernel_rfl)) ?_
  intro W base args ds gs before hval0 hW hcnd _
  have hval : ∀ (j : Nat) t v, Try.f3.params[j]? = some t → args[j]? = some v → Value.okWide Try.prog W .any base t v := hval0
  have hW' := hW
  obtain ⟨p, q, hA0, hV, rfl, hfz, hnd⟩ := hW
  have hA : DataW.TrodAll enc Try.prog W 0 (fun _ => true) true Try.f3.params.toList args.toList ds p := hA0
  rw [Try.params3] at hA hval
  obtain ⟨v0, vs0, d0, ds0, p0, q0, hargs, rfl, rfl, h0, r0⟩ := trodAll_cons hA
  obtain ⟨v1, vs1, d1, ds1, p1, q1, rfl, rfl, rfl, h1, r1⟩ := trodAll_cons r0
  obtain ⟨v2, vs2, d2, ds2, p2, q2, rfl, rfl, rfl, h2, r2⟩ := trodAll_cons r1
  obtain ⟨rfl, rfl, rfl⟩ := trodAll_nil r2
  obtain rfl : args = #[v0, v1, v2] := by cases args; simp_all
  obtain ⟨cs0, p0, rfl, r0⟩ := Kd.open_struct Ap.reads_Prm Try.underlying28 (hval 0 28 v0 rfl rfl) h0; obtain ⟨l0, rfl, x0⟩ := Ap.Prm_rep.1 r0
  obtain ⟨a1, rfl, _, _, w1⟩ := open_int Try.underlying3 (hval 1 3 v1 rfl rfl) h1
  obtain ⟨a2, rfl, _, _⟩ := open_bool Try.underlying4 (hval 2 4 v2 rfl rfl) h2
  refine (walk W p0 l0 x0 a1 w1 a2).mono fun e W' ⟨he, hb⟩ => ?_
  subst he
  exact ⟨_, rfl, Hk.closeLaw (tb := 4) (by kernel_rfl) (by kernel_rfl) rfl rfl rfl Try.underlying4 hW' hb⟩

theorem over : Rows.promoRightRow.holds Try.pinned (OpenSpec.ofChange Rows.promoRightSpec) :=
  OpenClaim.holds_of_wide 3 Try.f3 rfl rfl rfl rfl rfl rfl rfl ⟨rfl, rfl, rfl, rfl, rfl⟩ rfl rfl rfl rfl rfl (by kernel_rfl) Try.func3 (by kernel_rfl)
    (of_decide_eq_true (by kernel_rfl)) (by unfold Func.isWrapper; first | (rw [if_pos (by decide +kernel)]; kernel_rfl) | (rw [if_neg (by decide +kernel)]; exact ⟨rfl, rfl⟩))
    (fun os started H enc _ => lifted os started H enc)

/-- The statement. -/
theorem proved : Rows.PromoRightSaid :=
  over
end Go.Proofs.Ytgimcleeamlgcaa.promoRight
