/- P15.2: a promo that may be, of any kind, over units and places that may be; for every promo, slice of units, bits, and flag. No conditions. -/
import Derived.Test.YtacmoanhbkipfaaGreatPk0
import Derived.Test.YtacmoanhbkipfaaGreatPk31
import Derived.Test.YtacmoanhbkipfaaGreatPk32
import Derived.Test.YtacmoanhbkipfaaGreatPk37

set_option maxRecDepth 100000
namespace Go.Proofs.YtacmoanhbkipfaaGreat.cutAll
open Go.ChangeShapes Go.WideShapes Go.ChangeAt Go.RowKit
open Ap (Scp Prt Tir Prm Unt kPrm kPrt kTir kUnt row_Prm row_Unt row_Tir)
open Kd (Kind Row Cells Fit Agree Lst Sl kStr kInt row_int)
open Ko (Out Told Told2 At row_on)
open Ct
set_option maxRecDepth 100000
set_option linter.unusedVariables false
theorem own : ownKnob Tryz.prog.godebug = none := by kernel_rfl
theorem bits_in {a : Int} (h : (Lit.int .u64 a).wf = true) : 0 ≤ a ∧ a < 18446744073709551616 := by
  have h1 := Hk.wf_bounds h
  have h2 : IntKind.u64.min = 0 := rfl
  have h3 : IntKind.u64.max = 18446744073709551615 := rfl
  omega
set_option maxHeartbeats 8000000 in
theorem walk (w : World) (p : Prm) (l : Prm.Lay) (hP : Ap.Prm.Holds w (· < w.heap.size) p l) (A : Option Addr) (n c : Nat) (us : List Unt) (hU : Row kUnt w (· < w.heap.size) A n us) (hfU : Kd.Fit A n c) (bits : Int) (wbits : (Lit.int .u64 bits).wf = true) (any : Bool) :
    Calls Tryz.prog 4 #[.agg #[.string p.id, .int .i64 p.kind, .int .i64 p.priority, .string p.group, .string p.code, .bool p.closes, .slice l.scope.skus.A l.scope.skus.n l.scope.skus.c, .slice l.scope.cats.A l.scope.cats.n l.scope.cats.c, .int .i64 p.least, .int .i64 p.rate, .int .i64 p.amount, .int .i64 p.buy, .int .i64 p.get, .slice l.parts.A l.parts.n l.parts.c, .slice l.tiers.A l.tiers.n l.tiers.c], .slice A n c, .int .u64 bits, .bool any] w fun e w' => e = .returned (.bool true) ∧ Below w.heap.size w w' := by
  obtain ⟨W1, hW1⟩ : ∃ W1, w.alloc (.cells #[.string p.id, .int .i64 p.kind, .int .i64 p.priority, .string p.group, .string p.code, .bool p.closes, .slice l.scope.skus.A l.scope.skus.n l.scope.skus.c, .slice l.scope.cats.A l.scope.cats.n l.scope.cats.c, .int .i64 p.least, .int .i64 p.rate, .int .i64 p.amount, .int .i64 p.buy, .int .i64 p.get, .slice l.parts.A l.parts.n l.parts.c, .slice l.tiers.A l.tiers.n l.tiers.c] 28) = W1 := ⟨_, rfl⟩
  have hb1 : Below w.heap.size w W1 := by rw [← hW1]; exact (Below.refl _ _).alloc (Nat.le_refl _) _
  have hx1 : Qu.Blk W1 w.heap.size 28 #[.string p.id, .int .i64 p.kind, .int .i64 p.priority, .string p.group, .string p.code, .bool p.closes, .slice l.scope.skus.A l.scope.skus.n l.scope.skus.c, .slice l.scope.cats.A l.scope.cats.n l.scope.cats.c, .int .i64 p.least, .int .i64 p.rate, .int .i64 p.amount, .int .i64 p.buy, .int .i64 p.get, .slice l.parts.A l.parts.n l.parts.c, .slice l.tiers.A l.tiers.n l.tiers.c] := by rw [← hW1]; exact Qu.Blk.new w _ _
  have HFw := Lib.hid (few_any p l A n c W1 (Pr.holds_later hP hb1))
  have HB1 := Lib.hid hb1
  have HBits := Lib.hid (bits_in wbits)
  have x0 := hx1.cell 0
  have x1 := hx1.cell 1
  have x2 := hx1.cell 2
  have x3 := hx1.cell 3
  have x4 := hx1.cell 4
  have x5 := hx1.cell 5
  have x6 := hx1.cell 6
  have x7 := hx1.cell 7
  have x8 := hx1.cell 8
  have x9 := hx1.cell 9
  have x10 := hx1.cell 10
  have x11 := hx1.cell 11
  have x12 := hx1.cell 12
  have x13 := hx1.cell 13
  have x14 := hx1.cell 14
  have HX := Lib.hid hx1
  have HP := Lib.hid (Pr.holds_later hP hb1)
  have HU := Lib.hid (row_on hU hb1)
  clear hx1 hb1 hP hU hfU
  go_enter Tryz.func4, Tryz.ntmps4
  go_wp2_with fail
  clear hW1
  refine HFw.out.mono ?_
  rintro e w2 ⟨b, rfl, hfew, hb2⟩
  clear x0 x1 x2 x3 x4 x5 x6 x7 x8 x9 x10 x11 x12 x13 x14
  cases b with
  | false =>
    clear hfew HFw HX HP HU HBits
    have HA := Lib.hid (awake_any w2)
    have HB := Lib.hid (HB1.out.trans (hb2.mono HB1.out.size))
    go_wp2_with fail
    refine HA.out.mono ?_
    rintro e w3 ⟨rfl, hb3⟩
    have HB3 := Lib.hid (HB.out.trans (hb3.mono HB.out.size))
    clear hb3
    go_wp2
    go_ret
    exact ⟨rfl, HB3.out⟩
  | true =>
    have hfw := hfew rfl
    have hn2 : n ≤ 200 := hfw.units
    have HS := Lib.hid (small_of HP.out hfw.skus hfw.cats hfw.parts hfw.tiers)
    have HX2 := Lib.hid (HX.out.below hb2)
    have HP2 := Lib.hid (Pr.holds_later HP.out hb2)
    have HB2 := Lib.hid (HB1.out.trans (hb2.mono HB1.out.size))
    have H3 := units_any A n c us w2 (row_on HU.out hb2) (by omega)
    unfold Ko.Told at H3
    obtain ⟨vs, hvs⟩ : ∃ vs, unitsOf us = vs := ⟨_, rfl⟩
    have hk60 : vs.length ≤ 60 := by rw [← hvs]; exact unitsOf_length us
    obtain ⟨k, hk⟩ : ∃ k, vs.length = k := ⟨_, rfl⟩
    rw [hvs] at H3
    simp only [hk] at H3
    rw [hk] at hk60
    have hk60' : k ≤ 100000 := by omega
    have H3h := Lib.hid H3
    clear hfew hfw hb2 HFw HX HP HU HB1 H3 hvs hk
    go_wp2_with fail
    refine H3h.out.mono ?_
    rintro e w3 ⟨A3, c3, rfl, ho3, hb3⟩
    have HX3 := Lib.hid (HX2.out.below hb3)
    have HP3 := Lib.hid (Pr.holds_later HP2.out hb3)
    have HB3 := Lib.hid (HB2.out.trans (hb3.mono HB2.out.size))
    have HU3 := Lib.hid ho3.read
    have HFt := Lib.hid ho3.fit
    have H4 := Lib.hid (simple_any p l w3 HP3.out HS.out)
    have x0 := HX3.out.cell 0
    have x1 := HX3.out.cell 1
    have x2 := HX3.out.cell 2
    have x3 := HX3.out.cell 3
    have x4 := HX3.out.cell 4
    have x5 := HX3.out.cell 5
    have x6 := HX3.out.cell 6
    have x7 := HX3.out.cell 7
    have x8 := HX3.out.cell 8
    have x9 := HX3.out.cell 9
    have x10 := HX3.out.cell 10
    have x11 := HX3.out.cell 11
    have x12 := HX3.out.cell 12
    have x13 := HX3.out.cell 13
    have x14 := HX3.out.cell 14
    clear hb3 ho3 H3h HX2 HP2 HB2
    go_wp2_with fail
    refine H4.out.mono ?_
    rintro e w4 ⟨m, rfl, hmay, hfew, hP4, hb4⟩
    clear x0 x1 x2 x3 x4 x5 x6 x7 x8 x9 x10 x11 x12 x13 x14
    obtain ⟨q, hq⟩ : ∃ q, Py.nearP (simP p) 1 = q := ⟨_, rfl⟩
    rw [hq] at hmay hfew hP4
    simp only [hq]
    obtain ⟨w5, hw5⟩ : ∃ w5, w4.alloc (.cells #[.string q.id, .int .i64 q.kind, .int .i64 q.priority, .string q.group, .string q.code, .bool q.closes, .slice m.scope.skus.A m.scope.skus.n m.scope.skus.c, .slice m.scope.cats.A m.scope.cats.n m.scope.cats.c, .int .i64 q.least, .int .i64 q.rate, .int .i64 q.amount, .int .i64 q.buy, .int .i64 q.get, .slice m.parts.A m.parts.n m.parts.c, .slice m.tiers.A m.tiers.n m.tiers.c] 28) = w5 := ⟨_, rfl⟩
    have hb5 : Below w4.heap.size w4 w5 := by rw [← hw5]; exact (Below.refl _ _).alloc (Nat.le_refl _) _
    have hx5 : Qu.Blk w5 w4.heap.size 28 #[.string q.id, .int .i64 q.kind, .int .i64 q.priority, .string q.group, .string q.code, .bool q.closes, .slice m.scope.skus.A m.scope.skus.n m.scope.skus.c, .slice m.scope.cats.A m.scope.cats.n m.scope.cats.c, .int .i64 q.least, .int .i64 q.rate, .int .i64 q.amount, .int .i64 q.buy, .int .i64 q.get, .slice m.parts.A m.parts.n m.parts.c, .slice m.tiers.A m.tiers.n m.tiers.c] := by rw [← hw5]; exact Qu.Blk.new w4 _ _
    have HX5 := Lib.hid ((HX3.out.below hb4).below hb5)
    have HP5 := Lib.hid (Pr.holds_later (Pr.holds_later HP3.out hb4) hb5)
    have hU4 := row_on HU3.out hb4
    have HBt := Lib.hid (HB3.out.trans ((hb4.trans (hb5.mono hb4.size)).mono HB3.out.size))
    obtain ⟨b5, hb5e⟩ : ∃ b, w4.heap.size = b := ⟨_, rfl⟩
    rw [hb5e] at hx5 hU4
    have HUb : Hid (Row kUnt w5 (· < b5) A3 k vs) := Lib.hid (hU4.below (B := b5) (by rw [← hb5e]; exact hb5) (Nat.le_refl _))
    have HUt : Hid (Row kUnt w5 (· < w5.heap.size) A3 k vs) := Lib.hid (HUb.out.lift (by have := hx5.lt; omega))
    have HLow : Hid (w.heap.size ≤ b5 ∧ b5 < w5.heap.size) := Lib.hid ⟨by rw [← hb5e]; exact Nat.le_trans HB3.out.size hb4.size, hx5.lt⟩
    have HXt := Lib.hid hx5
    have HPt := Lib.hid (Pr.holds_later hP4 hb5)
    have HSt : Hid (Pr.PrmSmall q m) := Lib.hid (small_of hP4 (by omega) (by omega) (by omega) (by omega))
    have hW5 := Lib.hid hw5
    clear hmay hfew hP4 hb4 hb5 hx5 H4 HX3 HP3 HU3 HB3 hq hw5 hU4
    go_upto_region 5 with (fail)
    rw [hW5.out]
    clear hW5 hb5e
    cases any with
    | false =>
      have H7 := mine_any A3 k c3 vs bits w5 HUt.out hk60' HBits.out.1 HBits.out.2
      unfold Ko.Told at H7
      obtain ⟨ps, hps⟩ : ∃ ps, mineL bits vs = ps := ⟨_, rfl⟩
      have hpl : ps.length ≤ 60 := by rw [← hps]; have := mineFrom_length bits 0 vs; have := HUt.out.len; unfold mineL; omega
      obtain ⟨j, hj⟩ : ∃ j, ps.length = j := ⟨_, rfl⟩
      rw [hps] at H7
      simp only [hj] at H7
      rw [hj] at hpl
      have H7h := Lib.hid H7
      clear H7 hps hj
      go_wp2_with fail
      refine H7h.out.mono ?_
      rintro e w7 ⟨A7, c7, rfl, ho7, hb7⟩
      have HX7 := Lib.hid (HXt.out.below hb7)
      have HP7 := Lib.hid (Pr.holds_later HPt.out hb7)
      have HU7 := Lib.hid (row_on HUt.out hb7)
      have HB7 := Lib.hid (HBt.out.trans (hb7.mono HBt.out.size))
      have HM7 := Lib.hid ho7.read
      have H8 := lapply_any q m A3 k c3 vs A7 j c7 ps w7 HP7.out HSt.out HU7.out HFt.out HM7.out (by omega) (by omega)
      have H9 := fun W (hb : Below w7.heap.size w7 W) => rapply_any q m A3 k c3 vs A7 j c7 ps W (Pr.holds_later HP7.out hb) HSt.out (row_on HU7.out hb) HFt.out (row_on HM7.out hb) (by omega) (by omega)
      unfold Ko.Told2 at H8 H9
      obtain ⟨ys, hys⟩ : ∃ ys, (applyU q vs ps).1 = ys := ⟨_, rfl⟩
      obtain ⟨z, hz⟩ : ∃ z, (applyU q vs ps).2 = z := ⟨_, rfl⟩
      obtain ⟨y, hy⟩ : ∃ y, ys.length = y := ⟨_, rfl⟩
      simp only [hys, hz, hy] at H8 H9
      have hyn : y ≤ 60 := by rw [← hy, ← hys, applyU_length, HU7.out.len]; omega
      have H8h := Lib.hid H8
      have H9h := Lib.hid H9
      clear hb7 ho7 H7h H8 H9 hys hz hy HXt HPt HUt HBt
      have x0 := HX7.out.cell 0
      have x1 := HX7.out.cell 1
      have x2 := HX7.out.cell 2
      have x3 := HX7.out.cell 3
      have x4 := HX7.out.cell 4
      have x5 := HX7.out.cell 5
      have x6 := HX7.out.cell 6
      have x7 := HX7.out.cell 7
      have x8 := HX7.out.cell 8
      have x9 := HX7.out.cell 9
      have x10 := HX7.out.cell 10
      have x11 := HX7.out.cell 11
      have x12 := HX7.out.cell 12
      have x13 := HX7.out.cell 13
      have x14 := HX7.out.cell 14
      go_wp2_with fail
      refine H8h.out.mono ?_
      rintro e w8 ⟨A8, c8, rfl, ho8, hb8⟩
      clear x0 x1 x2 x3 x4 x5 x6 x7 x8 x9 x10 x11 x12 x13 x14
      have HX8 := Lib.hid (HX7.out.below hb8)
      have HR8 := Lib.hid ho8.read
      have HB8 := Lib.hid (HB7.out.trans (hb8.mono HB7.out.size))
      have H9i := Lib.hid (H9h.out w8 hb8)
      clear hb8 ho8 H8h H9h
      have x0 := HX8.out.cell 0
      have x1 := HX8.out.cell 1
      have x2 := HX8.out.cell 2
      have x3 := HX8.out.cell 3
      have x4 := HX8.out.cell 4
      have x5 := HX8.out.cell 5
      have x6 := HX8.out.cell 6
      have x7 := HX8.out.cell 7
      have x8 := HX8.out.cell 8
      have x9 := HX8.out.cell 9
      have x10 := HX8.out.cell 10
      have x11 := HX8.out.cell 11
      have x12 := HX8.out.cell 12
      have x13 := HX8.out.cell 13
      have x14 := HX8.out.cell 14
      go_wp2_with fail
      refine H9i.out.mono ?_
      rintro e w9 ⟨A9, c9, rfl, ho9, hb9⟩
      clear x0 x1 x2 x3 x4 x5 x6 x7 x8 x9 x10 x11 x12 x13 x14
      have HR89 := Lib.hid (row_on HR8.out hb9)
      have HR9 := Lib.hid ho9.read
      have HB9 := Lib.hid (HB8.out.trans (hb9.mono HB8.out.size))
      have HA := Lib.hid (awake_any w9)
      clear hb9 ho9 H9i HX7 HX8
      go_wp2_with fail
      refine HA.out.mono ?_
      rintro e w10 ⟨rfl, hb10⟩
      have HB10 := Lib.hid (HB9.out.trans (hb10.mono HB9.out.size))
      have H11 := Ap.Unt.plain_any A8 A9 y y c8 c9 ys ys _ w10 (row_on HR89.out hb10) (row_on HR9.out hb10) (fun b hb => hb) (by omega)
      rw [Kd.eqL_refl (fun y => Ap.Unt.sameB_refl y)] at H11
      have H11h := Lib.hid H11
      clear hb10 HA H11
      go_wp2_with fail
      refine H11h.out.mono ?_
      rintro e w11 ⟨rfl, hb11⟩
      have HB11 := Lib.hid (HB10.out.trans (hb11.mono HB10.out.size))
      clear hb11 H11h
      go_wp2
      go_ret
      exact ⟨rfl, HB11.out⟩
    | true =>
      have H6 := Lib.hid (near_any p l w5 HP5.out HS.out)
      have x0 := HX5.out.cell 0
      have x1 := HX5.out.cell 1
      have x2 := HX5.out.cell 2
      have x3 := HX5.out.cell 3
      have x4 := HX5.out.cell 4
      have x5 := HX5.out.cell 5
      have x6 := HX5.out.cell 6
      have x7 := HX5.out.cell 7
      have x8 := HX5.out.cell 8
      have x9 := HX5.out.cell 9
      have x10 := HX5.out.cell 10
      have x11 := HX5.out.cell 11
      have x12 := HX5.out.cell 12
      have x13 := HX5.out.cell 13
      have x14 := HX5.out.cell 14
      go_wp2_with fail
      refine H6.out.mono ?_
      rintro e w6 ⟨m2, ⟨m3, he, hmay, hfew, _, hb6⟩, rfl, ha⟩
      clear x0 x1 x2 x3 x4 x5 x6 x7 x8 x9 x10 x11 x12 x13 x14
      obtain ⟨q2, hq2⟩ : ∃ q2, Py.nearP p 1 = q2 := ⟨_, rfl⟩
      rw [hq2] at he hmay hfew ha
      simp only [hq2]
      clear hq2
      have hz6 := HXt.out.below hb6
      have z0 := hz6.cell 0
      have z1 := hz6.cell 1
      have z2 := hz6.cell 2
      have z3 := hz6.cell 3
      have z4 := hz6.cell 4
      have z5 := hz6.cell 5
      have z6 := hz6.cell 6
      have z7 := hz6.cell 7
      have z8 := hz6.cell 8
      have z9 := hz6.cell 9
      have z10 := hz6.cell 10
      have z11 := hz6.cell 11
      have z12 := hz6.cell 12
      have z13 := hz6.cell 13
      have z14 := hz6.cell 14
      have zf := hz6.frozen
      obtain ⟨wn, hwn⟩ : ∃ wn, (((((((((((((((w6.setCell ⟨b5, 0, none⟩ (.string q2.id)).setCell ⟨b5, 1, none⟩ (.int .i64 q2.kind)).setCell ⟨b5, 2, none⟩ (.int .i64 q2.priority)).setCell ⟨b5, 3, none⟩ (.string q2.group)).setCell ⟨b5, 4, none⟩ (.string q2.code)).setCell ⟨b5, 5, none⟩ (.bool q2.closes)).setCell ⟨b5, 6, none⟩ (.slice m2.scope.skus.A m2.scope.skus.n m2.scope.skus.c)).setCell ⟨b5, 7, none⟩ (.slice m2.scope.cats.A m2.scope.cats.n m2.scope.cats.c)).setCell ⟨b5, 8, none⟩ (.int .i64 q2.least)).setCell ⟨b5, 9, none⟩ (.int .i64 q2.rate)).setCell ⟨b5, 10, none⟩ (.int .i64 q2.amount)).setCell ⟨b5, 11, none⟩ (.int .i64 q2.buy)).setCell ⟨b5, 12, none⟩ (.int .i64 q2.get)).setCell ⟨b5, 13, none⟩ (.slice m2.parts.A m2.parts.n m2.parts.c)).setCell ⟨b5, 14, none⟩ (.slice m2.tiers.A m2.tiers.n m2.tiers.c)) = wn := ⟨_, rfl⟩
      have hblk : Qu.Blk wn b5 28 #[.string q2.id, .int .i64 q2.kind, .int .i64 q2.priority, .string q2.group, .string q2.code, .bool q2.closes, .slice m2.scope.skus.A m2.scope.skus.n m2.scope.skus.c, .slice m2.scope.cats.A m2.scope.cats.n m2.scope.cats.c, .int .i64 q2.least, .int .i64 q2.rate, .int .i64 q2.amount, .int .i64 q2.buy, .int .i64 q2.get, .slice m2.parts.A m2.parts.n m2.parts.c, .slice m2.tiers.A m2.tiers.n m2.tiers.c] := by
        rw [← hwn]
        exact Kd.blk_puts (q2.enc m2) w6 0 _ hz6
      have ho : Mv.Only w6 wn (Mv.one b5) := by rw [← hwn]; exact Py.only_puts (q2.enc m2) w6 0 (Mv.Only.refl w6 _)
      have hbel : Below w.heap.size w wn := by rw [← hwn]; exact Kd.below_puts HLow.out.1 (q2.enc m2) w6 0 (HBt.out.trans (hb6.mono HBt.out.size))
      have hP7 := anew_put ha HLow.out.2 ho
      have HXs := Lib.hid hblk
      have HPs := Lib.hid hP7
      have HSs : Hid (Pr.PrmSmall q2 m2) := Lib.hid (small_of hP7 (by omega) (by omega) (by omega) (by omega))
      have HBs := Lib.hid hbel
      have HUs : Hid (Row kUnt wn (· < wn.heap.size) A3 k vs) := Lib.hid (((HUb.out.below (B := b5) (hb6.mono (by have := HLow.out.2; omega)) (Nat.le_refl _)).stay (fun b hb => ho.block b (by have := HLow.out.2; have := hb6.size; omega) (fun e => by have : b = b5 := e; omega))).lift (by have := HLow.out.2; have := hb6.size; have := ho.size; omega))
      have hWn := Lib.hid hwn
      clear hz6 hblk ho hbel hP7 hmay hfew ha hb6 he hwn H6 HXt HPt HSt HBt HUt HX5 HP5
      unfold Ap.Prm.enc
      go_upto_region 7 with (fail)
      rw [hWn.out]
      clear hWn z0 z1 z2 z3 z4 z5 z6 z7 z8 z9 z10 z11 z12 z13 z14 zf
      have H7 := mine_any A3 k c3 vs bits wn HUs.out hk60' HBits.out.1 HBits.out.2
      unfold Ko.Told at H7
      obtain ⟨ps, hps⟩ : ∃ ps, mineL bits vs = ps := ⟨_, rfl⟩
      have hpl : ps.length ≤ 60 := by rw [← hps]; have := mineFrom_length bits 0 vs; have := HUs.out.len; unfold mineL; omega
      obtain ⟨j, hj⟩ : ∃ j, ps.length = j := ⟨_, rfl⟩
      rw [hps] at H7
      simp only [hj] at H7
      rw [hj] at hpl
      have H7h := Lib.hid H7
      clear H7 hps hj
      go_wp2_with fail
      refine H7h.out.mono ?_
      rintro e w7 ⟨A7, c7, rfl, ho7, hb7⟩
      have HX7 := Lib.hid (HXs.out.below hb7)
      have HP7 := Lib.hid (Pr.holds_later HPs.out hb7)
      have HU7 := Lib.hid (row_on HUs.out hb7)
      have HB7 := Lib.hid (HBs.out.trans (hb7.mono HBs.out.size))
      have HM7 := Lib.hid ho7.read
      have H8 := lapply_any q2 m2 A3 k c3 vs A7 j c7 ps w7 HP7.out HSs.out HU7.out HFt.out HM7.out (by omega) (by omega)
      have H9 := fun W (hb : Below w7.heap.size w7 W) => rapply_any q2 m2 A3 k c3 vs A7 j c7 ps W (Pr.holds_later HP7.out hb) HSs.out (row_on HU7.out hb) HFt.out (row_on HM7.out hb) (by omega) (by omega)
      unfold Ko.Told2 at H8 H9
      obtain ⟨ys, hys⟩ : ∃ ys, (applyU q2 vs ps).1 = ys := ⟨_, rfl⟩
      obtain ⟨z, hz⟩ : ∃ z, (applyU q2 vs ps).2 = z := ⟨_, rfl⟩
      obtain ⟨y, hy⟩ : ∃ y, ys.length = y := ⟨_, rfl⟩
      simp only [hys, hz, hy] at H8 H9
      have hyn : y ≤ 60 := by rw [← hy, ← hys, applyU_length, HU7.out.len]; omega
      have H8h := Lib.hid H8
      have H9h := Lib.hid H9
      clear hb7 ho7 H7h H8 H9 hys hz hy HXs HPs HUs HBs
      have x0 := HX7.out.cell 0
      have x1 := HX7.out.cell 1
      have x2 := HX7.out.cell 2
      have x3 := HX7.out.cell 3
      have x4 := HX7.out.cell 4
      have x5 := HX7.out.cell 5
      have x6 := HX7.out.cell 6
      have x7 := HX7.out.cell 7
      have x8 := HX7.out.cell 8
      have x9 := HX7.out.cell 9
      have x10 := HX7.out.cell 10
      have x11 := HX7.out.cell 11
      have x12 := HX7.out.cell 12
      have x13 := HX7.out.cell 13
      have x14 := HX7.out.cell 14
      go_wp2_with fail
      refine H8h.out.mono ?_
      rintro e w8 ⟨A8, c8, rfl, ho8, hb8⟩
      clear x0 x1 x2 x3 x4 x5 x6 x7 x8 x9 x10 x11 x12 x13 x14
      have HX8 := Lib.hid (HX7.out.below hb8)
      have HR8 := Lib.hid ho8.read
      have HB8 := Lib.hid (HB7.out.trans (hb8.mono HB7.out.size))
      have H9i := Lib.hid (H9h.out w8 hb8)
      clear hb8 ho8 H8h H9h
      have x0 := HX8.out.cell 0
      have x1 := HX8.out.cell 1
      have x2 := HX8.out.cell 2
      have x3 := HX8.out.cell 3
      have x4 := HX8.out.cell 4
      have x5 := HX8.out.cell 5
      have x6 := HX8.out.cell 6
      have x7 := HX8.out.cell 7
      have x8 := HX8.out.cell 8
      have x9 := HX8.out.cell 9
      have x10 := HX8.out.cell 10
      have x11 := HX8.out.cell 11
      have x12 := HX8.out.cell 12
      have x13 := HX8.out.cell 13
      have x14 := HX8.out.cell 14
      go_wp2_with fail
      refine H9i.out.mono ?_
      rintro e w9 ⟨A9, c9, rfl, ho9, hb9⟩
      clear x0 x1 x2 x3 x4 x5 x6 x7 x8 x9 x10 x11 x12 x13 x14
      have HR89 := Lib.hid (row_on HR8.out hb9)
      have HR9 := Lib.hid ho9.read
      have HB9 := Lib.hid (HB8.out.trans (hb9.mono HB8.out.size))
      have HA := Lib.hid (awake_any w9)
      clear hb9 ho9 H9i HX7 HX8
      go_wp2_with fail
      refine HA.out.mono ?_
      rintro e w10 ⟨rfl, hb10⟩
      have HB10 := Lib.hid (HB9.out.trans (hb10.mono HB9.out.size))
      have H11 := Ap.Unt.plain_any A8 A9 y y c8 c9 ys ys _ w10 (row_on HR89.out hb10) (row_on HR9.out hb10) (fun b hb => hb) (by omega)
      rw [Kd.eqL_refl (fun y => Ap.Unt.sameB_refl y)] at H11
      have H11h := Lib.hid H11
      clear hb10 HA H11
      go_wp2_with fail
      refine H11h.out.mono ?_
      rintro e w11 ⟨rfl, hb11⟩
      have HB11 := Lib.hid (HB10.out.trans (hb11.mono HB10.out.size))
      clear hb11 H11h
      go_wp2
      go_ret
      exact ⟨rfl, HB11.out⟩
set_option maxRecDepth 100000 in
theorem lifted (os : Os) (started : os.Started) (H : Type) (enc : TypeId × Value → H) :
    ReturnsInHanded {} Tryz.checked os 4 .any (Rows.cutAllSpec.pre6 enc Tryz.prog Tryz.f4 Rows.cutAllRow.domain false) (Rows.cutAllSpec.post enc Tryz.prog Tryz.f4 false true false false) := by
  refine returnsInHanded_of_change (C := Tryz.checked) own started (by kernel_rfl) Tryz.func4
    (ChangeSpec.witness6 (enc := enc) (C := Tryz.checked) false ⟨#[], #[.agg #[.string ⟨#[]⟩, .int .i64 0, .int .i64 0, .string ⟨#[]⟩, .string ⟨#[]⟩, .bool false, .slice none 0 0, .slice none 0 0, .int .i64 0, .int .i64 0, .int .i64 0, .int .i64 0, .int .i64 0, .slice none 0 0, .slice none 0 0], .slice none 0 0, .int .u64 0, .bool false], []⟩ 8 (by kernel_rfl) (by kernel_rfl) (by kernel_rfl) (by kernel_rfl)) ?_
  intro W base args ds gs before hval0 hW hcnd _
  have hval : ∀ (j : Nat) t v, Tryz.f4.params[j]? = some t → args[j]? = some v → Value.okWide Tryz.prog W .any base t v := hval0
  have hW' := hW
  obtain ⟨p, q, hA0, hV, rfl, hfz, hnd⟩ := hW
  have hA : DataW.TrodAll enc Tryz.prog W 0 (fun _ => true) true Tryz.f4.params.toList args.toList ds p := hA0
  rw [Tryz.params4] at hA hval
  obtain ⟨v0, vs0, d0, ds0, p0, q0, hargs, rfl, rfl, h0, r0⟩ := trodAll_cons hA
  obtain ⟨v1, vs1, d1, ds1, p1, q1, rfl, rfl, rfl, h1, r1⟩ := trodAll_cons r0
  obtain ⟨v2, vs2, d2, ds2, p2, q2, rfl, rfl, rfl, h2, r2⟩ := trodAll_cons r1
  obtain ⟨v3, vs3, d3, ds3, p3, q3, rfl, rfl, rfl, h3, r3⟩ := trodAll_cons r2
  obtain ⟨rfl, rfl, rfl⟩ := trodAll_nil r3
  obtain rfl : args = #[v0, v1, v2, v3] := by cases args; simp_all
  obtain ⟨cs0, p0, rfl, r0⟩ := Kd.open_struct Ap.reads_Prm Tryz.underlying28 (hval 0 28 v0 rfl rfl) h0; obtain ⟨l0, rfl, x0⟩ := Ap.Prm_rep.1 r0
  obtain ⟨A1, n1, c1, xs1, rfl, x1, y1⟩ := Kd.open_list Ap.reads_Unt Tryz.underlying29 (by decide) (hval 1 29 v1 rfl rfl) h1
  obtain ⟨a2, rfl, _, _, w2⟩ := open_int Tryz.underlying48 (hval 2 48 v2 rfl rfl) h2
  obtain ⟨a3, rfl, _, _⟩ := open_bool Tryz.underlying4 (hval 3 4 v3 rfl rfl) h3
  refine (walk W p0 l0 x0 A1 n1 c1 xs1 x1 y1 a2 w2 a3).mono fun e W' ⟨he, hb⟩ => ?_
  subst he
  exact ⟨_, rfl, Hk.closeLaw (tb := 4) (by kernel_rfl) (by kernel_rfl) rfl rfl rfl Tryz.underlying4 hW' hb⟩
theorem over : Rows.cutAllRow.holds Tryz.pinned (OpenSpec.ofChange Rows.cutAllSpec) :=
  OpenClaim.holds_of_wide 4 Tryz.f4 rfl rfl rfl rfl rfl rfl rfl ⟨rfl, rfl, rfl, rfl, rfl⟩ rfl rfl rfl rfl rfl (by kernel_rfl) Tryz.func4 (by kernel_rfl)
    (of_decide_eq_true (by kernel_rfl)) (by unfold Func.isWrapper; first | (rw [if_pos (by decide +kernel)]; kernel_rfl) | (rw [if_neg (by decide +kernel)]; exact ⟨rfl, rfl⟩))
    (fun os started H enc _ => lifted os started H enc)
theorem proved : Rows.CutAllSaid :=
  over
end Go.Proofs.YtacmoanhbkipfaaGreat.cutAll
