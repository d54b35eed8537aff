/- P15.1, P15.2: any promo, any units, and any places of them; nothing is turned; for every promo, slice of units, slice of ints, and number. No conditions. -/
import Derived.Test.YtacmoanhbkipfaaGreatPk0
import Derived.Test.YtacmoanhbkipfaaGreatPk16
import Derived.Test.YtacmoanhbkipfaaGreatPk31
import Derived.Test.YtacmoanhbkipfaaGreatPk38

set_option maxRecDepth 100000
namespace Go.Proofs.YtacmoanhbkipfaaGreat.cutRaw
open Go.ChangeShapes Go.WideShapes Go.ChangeAt Go.RowKit
open Ap (Scp Prt Tir Prm Unt kPrm kPrt kTir kUnt row_Prm row_Unt row_Tir)
open Kd (Kind Row Cells Fit Agree Lst Sl kStr kInt row_int)
open Ko (Out Told Told2 At row_on)
open Ct
set_option maxRecDepth 100000
set_option linter.unusedVariables false
theorem own : ownKnob Tryz.prog.godebug = none := by kernel_rfl
set_option maxHeartbeats 8000000 in
theorem walk (w : World) (p : Prm) (l : Prm.Lay) (hP : Ap.Prm.Holds w (· < w.heap.size) p l) (A : Option Addr) (n c : Nat) (us : List Unt) (hU : Row kUnt w (· < w.heap.size) A n us) (hfU : Kd.Fit A n c) (B : Option Addr) (m d : Nat) (ms : List Int) (hM : Row kInt w (· < w.heap.size) B m ms) (hfM : Kd.Fit B m d) (x : Int) (wx : (Lit.int .i64 x).wf = true) :
    Calls Tryz.prog 3 #[.agg #[.string p.id, .int .i64 p.kind, .int .i64 p.priority, .string p.group, .string p.code, .bool p.closes, .slice l.scope.skus.A l.scope.skus.n l.scope.skus.c, .slice l.scope.cats.A l.scope.cats.n l.scope.cats.c, .int .i64 p.least, .int .i64 p.rate, .int .i64 p.amount, .int .i64 p.buy, .int .i64 p.get, .slice l.parts.A l.parts.n l.parts.c, .slice l.tiers.A l.tiers.n l.tiers.c], .slice A n c, .slice B m d, .int .i64 x] w fun e w' => e = .returned (.bool true) ∧ Below w.heap.size w w' := by
  obtain ⟨W1, hW1⟩ : ∃ W1, w.alloc (.cells #[.string p.id, .int .i64 p.kind, .int .i64 p.priority, .string p.group, .string p.code, .bool p.closes, .slice l.scope.skus.A l.scope.skus.n l.scope.skus.c, .slice l.scope.cats.A l.scope.cats.n l.scope.cats.c, .int .i64 p.least, .int .i64 p.rate, .int .i64 p.amount, .int .i64 p.buy, .int .i64 p.get, .slice l.parts.A l.parts.n l.parts.c, .slice l.tiers.A l.tiers.n l.tiers.c] 28) = W1 := ⟨_, rfl⟩
  have hb1 : Below w.heap.size w W1 := by rw [← hW1]; exact (Below.refl _ _).alloc (Nat.le_refl _) _
  have hx1 : Qu.Blk W1 w.heap.size 28 #[.string p.id, .int .i64 p.kind, .int .i64 p.priority, .string p.group, .string p.code, .bool p.closes, .slice l.scope.skus.A l.scope.skus.n l.scope.skus.c, .slice l.scope.cats.A l.scope.cats.n l.scope.cats.c, .int .i64 p.least, .int .i64 p.rate, .int .i64 p.amount, .int .i64 p.buy, .int .i64 p.get, .slice l.parts.A l.parts.n l.parts.c, .slice l.tiers.A l.tiers.n l.tiers.c] := by rw [← hW1]; exact Qu.Blk.new w _ _
  have HFw := Lib.hid (few_any p l A n c W1 (Pr.holds_later hP hb1))
  have HB1 := Lib.hid hb1
  have x0 := hx1.cell 0
  have x1 := hx1.cell 1
  have x2 := hx1.cell 2
  have x3 := hx1.cell 3
  have x4 := hx1.cell 4
  have x5 := hx1.cell 5
  have x6 := hx1.cell 6
  have x7 := hx1.cell 7
  have x8 := hx1.cell 8
  have x9 := hx1.cell 9
  have x10 := hx1.cell 10
  have x11 := hx1.cell 11
  have x12 := hx1.cell 12
  have x13 := hx1.cell 13
  have x14 := hx1.cell 14
  have HX := Lib.hid hx1
  have HP := Lib.hid (Pr.holds_later hP hb1)
  have HU := Lib.hid (row_on hU hb1)
  have HM := Lib.hid (row_on hM hb1)
  have HFu := Lib.hid hfU
  have HFm := Lib.hid hfM
  clear hx1 hb1 hP hU hM hfU hfM
  go_enter Tryz.func3, Tryz.ntmps3
  go_wp2_with fail
  clear hW1
  refine HFw.out.mono ?_
  rintro e w2 ⟨b, rfl, hfew, hb2⟩
  clear x0 x1 x2 x3 x4 x5 x6 x7 x8 x9 x10 x11 x12 x13 x14
  cases b with
  | false =>
    clear hfew HFw HX HP HU HM HFu HFm
    have HA := Lib.hid (awake_any w2)
    have HB := Lib.hid (HB1.out.trans (hb2.mono HB1.out.size))
    go_wp2_with fail
    refine HA.out.mono ?_
    rintro e w3 ⟨rfl, hb3⟩
    have HB3 := Lib.hid (HB.out.trans (hb3.mono HB.out.size))
    clear hb3
    go_wp2
    go_ret
    exact ⟨rfl, HB3.out⟩
  | true =>
    by_cases hm2 : 200 < m
    · have i2 : (200 : Int) < (m : Int) := by omega
      clear hfew HFw HX HP HU HM HFu HFm
      have HA := Lib.hid (awake_any w2)
      have HB := Lib.hid (HB1.out.trans (hb2.mono HB1.out.size))
      go_wp2_with fail
      refine HA.out.mono ?_
      rintro e w3 ⟨rfl, hb3⟩
      have HB3 := Lib.hid (HB.out.trans (hb3.mono HB.out.size))
      clear hb3
      go_wp2
      go_ret
      exact ⟨rfl, HB3.out⟩
    have i2 : ¬ (200 : Int) < (m : Int) := by omega
    have hfw := hfew rfl
    have hn2 : n ≤ 200 := hfw.units
    have HS := Lib.hid (small_of HP.out hfw.skus hfw.cats hfw.parts hfw.tiers)
    have HX2 := Lib.hid (HX.out.below hb2)
    have HP2 := Lib.hid (Pr.holds_later HP.out hb2)
    have HU2 := Lib.hid (row_on HU.out hb2)
    have HM2 := Lib.hid (row_on HM.out hb2)
    have HB2 := Lib.hid (HB1.out.trans (hb2.mono HB1.out.size))
    have H3 := Lib.hid (Ap.Unt.own_any A n c us ⟨71, 0, false⟩ w2 HU2.out HFu.out ⟨by decide, by decide⟩ (by omega))
    clear hfew hfw hb2 HFw HX HP HU HM HB1
    go_wp2_with fail
    refine H3.out.mono ?_
    rintro e w3 ⟨g3, rfl, _, hg3, ho3, hb3⟩
    have HX3 := Lib.hid (HX2.out.below hb3)
    have HP3 := Lib.hid (Pr.holds_later HP2.out hb3)
    have HU3 := Lib.hid (row_on HU2.out hb3)
    have HM3 := Lib.hid (row_on HM2.out hb3)
    have HB3 := Lib.hid (HB2.out.trans (hb3.mono HB2.out.size))
    have HO3 := Lib.hid ho3
    have H4 := Lib.hid (Hp.own_int B m d ms 71 w3 HM3.out HFm.out (by decide) (by omega))
    clear hb3 hg3 ho3 H3 HX2 HP2 HU2 HM2 HB2
    go_wp2_with fail
    refine H4.out.mono ?_
    rintro e w4 ⟨g4, rfl, _, hg4, ho4, hb4⟩
    have HX4 := Lib.hid (HX3.out.below hb4)
    have HP4 := Lib.hid (Pr.holds_later HP3.out hb4)
    have HU4 := Lib.hid (row_on HU3.out hb4)
    have HM4 := Lib.hid (row_on HM3.out hb4)
    have HB4 := Lib.hid (HB3.out.trans (hb4.mono HB3.out.size))
    have HO4 := Lib.hid (row_on HO3.out hb4)
    have HQ4 := Lib.hid ho4
    have hUl := HU4.out.len
    have hMl := HM4.out.len
    have H5 := lapply_any p l (some ⟨g3, 0, none⟩) n (n + 3) us (some ⟨g4, 0, none⟩) m (m + 3) ms w4 HP4.out HS.out (Kd.row_front HO4.out hUl) ⟨fun h => (by cases h), by omega, by omega⟩ (Kd.row_front HQ4.out hMl) (by omega) (by omega)
    unfold Ko.Told2 at H5
    have H6 := Lib.hid (fun W (hb : Below w4.heap.size w4 W) => rapply_any p l A n c us B m d ms W (Pr.holds_later HP4.out hb) HS.out (row_on HU4.out hb) HFu.out (row_on HM4.out hb) (by omega) (by omega))
    unfold Ko.Told2 at H6
    obtain ⟨ys, hys⟩ : ∃ ys, (applyU p us ms).1 = ys := ⟨_, rfl⟩
    obtain ⟨z, hz⟩ : ∃ z, (applyU p us ms).2 = z := ⟨_, rfl⟩
    obtain ⟨q, hq⟩ : ∃ q, ys.length = q := ⟨_, rfl⟩
    simp only [hys, hz, hq] at H5 H6
    have HY := Lib.hid (show ys.length ≤ 200 by rw [← hys]; rw [applyU_length]; omega)
    have hqn : q ≤ 200 := by rw [← hq]; exact HY.out
    have H5h := Lib.hid H5
    have Hq := Lib.hid hq
    have x0 := HX4.out.cell 0
    have x1 := HX4.out.cell 1
    have x2 := HX4.out.cell 2
    have x3 := HX4.out.cell 3
    have x4 := HX4.out.cell 4
    have x5 := HX4.out.cell 5
    have x6 := HX4.out.cell 6
    have x7 := HX4.out.cell 7
    have x8 := HX4.out.cell 8
    have x9 := HX4.out.cell 9
    have x10 := HX4.out.cell 10
    have x11 := HX4.out.cell 11
    have x12 := HX4.out.cell 12
    have x13 := HX4.out.cell 13
    have x14 := HX4.out.cell 14
    clear hb4 hg4 ho4 H4 H5 HX3 HP3 HU3 HM3 HB3 HO3 hys hz hq hUl hMl
    go_wp2_with fail
    refine H5h.out.mono ?_
    rintro e w5 ⟨A5, c5, rfl, ho5, hb5⟩
    clear x0 x1 x2 x3 x4 x5 x6 x7 x8 x9 x10 x11 x12 x13 x14
    have HX5 := Lib.hid (HX4.out.below hb5)
    have HR5 := Lib.hid ho5.read
    have HB5 := Lib.hid hb5
    have H6h := Lib.hid (H6.out w5 hb5)
    have x0 := HX5.out.cell 0
    have x1 := HX5.out.cell 1
    have x2 := HX5.out.cell 2
    have x3 := HX5.out.cell 3
    have x4 := HX5.out.cell 4
    have x5 := HX5.out.cell 5
    have x6 := HX5.out.cell 6
    have x7 := HX5.out.cell 7
    have x8 := HX5.out.cell 8
    have x9 := HX5.out.cell 9
    have x10 := HX5.out.cell 10
    have x11 := HX5.out.cell 11
    have x12 := HX5.out.cell 12
    have x13 := HX5.out.cell 13
    have x14 := HX5.out.cell 14
    clear hb5 ho5 H5h H6
    go_wp2_with fail
    refine H6h.out.mono ?_
    rintro e w6 ⟨A6, c6, rfl, ho6, hb6⟩
    clear x0 x1 x2 x3 x4 x5 x6 x7 x8 x9 x10 x11 x12 x13 x14
    have HX6 := Lib.hid (HX5.out.below hb6)
    have HR6 := Lib.hid ho6.read
    have HR56 := Lib.hid (row_on HR5.out hb6)
    have HB6 := Lib.hid (HB5.out.trans (hb6.mono HB5.out.size))
    have HT := fun W (hb : Below w4.heap.size w4 W) => row_on HP4.out.tiers.row hb
    have hnt := HS.out.nt
    have H7 := lreached_any l.tiers.A l.tiers.n l.tiers.c p.tiers x w6 (HT w6 HB6.out) hnt
    have H8 := fun W (hb : Below w6.heap.size w6 W) => reached_any l.tiers.A l.tiers.n l.tiers.c p.tiers x W (HT W (HB6.out.trans (hb.mono HB6.out.size))) hnt
    unfold tierPair at H7 H8
    obtain ⟨ls, hls⟩ : ∃ z, (tierOf x p.tiers).least = z := ⟨_, rfl⟩
    obtain ⟨r, hr⟩ : ∃ z, (tierOf x p.tiers).rate = z := ⟨_, rfl⟩
    obtain ⟨am, ham⟩ : ∃ z, (tierOf x p.tiers).amount = z := ⟨_, rfl⟩
    obtain ⟨sm, hsm⟩ : ∃ z, (reached x p.tiers).isSome = z := ⟨_, rfl⟩
    simp only [hls, hr, ham, hsm] at H7 H8
    have H7h := Lib.hid H7
    have H8h := Lib.hid H8
    have x14 := HX6.out.cell 14
    clear hb6 ho6 H6h H7 H8 HX4 HX5 HT hls hr ham hsm hnt
    go_wp2_with fail
    refine H7h.out.mono ?_
    rintro e wa ⟨rfl, hba⟩
    obtain ⟨w7, hw7⟩ : ∃ w7, wa.alloc (.cells #[.int .i64 ls, .int .i64 r, .int .i64 am] 40) = w7 := ⟨_, rfl⟩
    have hb7 : Below w6.heap.size w6 w7 := by rw [← hw7]; exact hba.alloc hba.size _
    have ht7 : Qu.Blk w7 wa.heap.size 40 #[.int .i64 ls, .int .i64 r, .int .i64 am] := by rw [← hw7]; exact Qu.Blk.new wa _ _
    have HB7 := Lib.hid hb7
    have x14 := (HX6.out.below hb7).cell 14
    obtain ⟨ba, hba2⟩ : ∃ b, wa.heap.size = b := ⟨_, rfl⟩
    rw [hba2] at ht7
    have HT7 := Lib.hid ht7
    clear hba hb7 ht7 H7h
    go_wp2_with fail
    clear hw7 x14
    clear hba2
    refine (H8h.out w7 HB7.out).mono ?_
    rintro e wb ⟨rfl, hbb⟩
    obtain ⟨w8, hw8⟩ : ∃ w8, wb.alloc (.cells #[.int .i64 ls, .int .i64 r, .int .i64 am] 40) = w8 := ⟨_, rfl⟩
    have hb8 : Below w7.heap.size w7 w8 := by rw [← hw8]; exact hbb.alloc hbb.size _
    have ht8 : Qu.Blk w8 wb.heap.size 40 #[.int .i64 ls, .int .i64 r, .int .i64 am] := by rw [← hw8]; exact Qu.Blk.new wb _ _
    obtain ⟨bb, hbb2⟩ : ∃ b, wb.heap.size = b := ⟨_, rfl⟩
    rw [hbb2] at ht8
    have HT8 := Lib.hid ht8
    have HT78 := Lib.hid (HT7.out.below hb8)
    have HB8 := Lib.hid ((HB6.out.trans (HB7.out.mono HB6.out.size)).trans (hb8.mono (Nat.le_trans HB6.out.size HB7.out.size)))
    have HB68 := Lib.hid (HB7.out.trans (hb8.mono HB7.out.size))
    have HA9 := Lib.hid (awake_any w8)
    clear hbb hb8 ht8 H8h
    go_wp2_with fail
    clear hw8
    refine HA9.out.mono ?_
    rintro e w9 ⟨rfl, hb9⟩
    clear hbb2
    have HB9 := Lib.hid (HB8.out.trans (hb9.mono HB8.out.size))
    have HB69 := Lib.hid (HB68.out.trans (hb9.mono HB68.out.size))
    have HT79 := Lib.hid (HT78.out.below hb9)
    have HT89 := Lib.hid (HT8.out.below hb9)
    have H10 := Ap.Unt.plain_any A5 A6 q q c5 c6 ys ys _ w9 (row_on HR56.out HB69.out) (row_on HR6.out HB69.out) (fun b hb => hb) (by omega)
    rw [Kd.eqL_refl (fun y => Ap.Unt.sameB_refl y)] at H10
    have H10h := Lib.hid H10
    clear hb9 HA9 H10 HT78 HT8 HT7 HB8 HB68
    go_wp2_with fail
    refine H10h.out.mono ?_
    rintro e w10 ⟨rfl, hb10⟩
    have HB10 := Lib.hid (HB9.out.trans (hb10.mono HB9.out.size))
    have HT710 := Lib.hid (HT79.out.below hb10)
    have HT810 := Lib.hid (HT89.out.below hb10)
    have hUl := HU4.out.len
    have hMl := HM4.out.len
    have H11 := lmay_any (some ⟨g3, 0, none⟩) n (n + 3) us (some ⟨g4, 0, none⟩) m (m + 3) ms w10 (Kd.row_front (row_on HO4.out HB10.out) hUl) (by omega) (Kd.row_front (row_on HQ4.out HB10.out) hMl) (by omega)
    have H12 := fun W (hb : Below w10.heap.size w10 W) => may_any A n c us B m d ms _ _ W (row_on (row_on HU4.out HB10.out) hb) (by omega) (row_on (row_on HM4.out HB10.out) hb) (by omega)
    obtain ⟨mb, hmb⟩ : ∃ b, mayB us ms = b := ⟨_, rfl⟩
    simp only [hmb] at H11 H12
    have H11h := Lib.hid H11
    have H12h := Lib.hid H12
    have e1 : (mb == mb) = true := by cases mb <;> rfl
    have e2 : (sm == sm) = true := by cases sm <;> rfl
    clear hb10 H10h H11 H12 hmb HT79 HT89 hUl hMl
    go_wp2_with fail
    refine H11h.out.mono ?_
    rintro e w11 ⟨rfl, hb11⟩
    have HB11 := Lib.hid hb11
    have H12i := Lib.hid (H12h.out w11 hb11)
    clear hb11 H11h H12h
    go_wp2_with fail
    refine H12i.out.mono ?_
    rintro e w12 ⟨rfl, hd12⟩
    have hb12 := HB11.out.trans ((hd12.below _).mono (Nat.le_refl _))
    have HB12 := Lib.hid (HB10.out.trans (hb12.mono HB10.out.size))
    have ht7 := HT710.out.below hb12
    have ht8 := HT810.out.below hb12
    have y0 := ht7.cell 0
    have y1 := ht7.cell 1
    have y2 := ht7.cell 2
    have z0 := ht8.cell 0
    have z1 := ht8.cell 1
    have z2 := ht8.cell 2
    have H13 := Lib.hid (Ap.Unt.kept_any (some ⟨g3, 0, none⟩) A n c us ⟨71, 0, false⟩ _ w12 (row_on HO4.out HB12.out) (row_on HU4.out HB12.out) (fun b hb => hb) (by omega))
    clear hd12 hb12 H12i HT710 HT810 ht7 ht8
    go_wp2_with fail
    refine H13.out.mono ?_
    rintro e w13 ⟨rfl, hb13⟩
    have HB13 := Lib.hid (HB12.out.trans (hb13.mono HB12.out.size))
    have H14 := Lib.hid (Hp.kept_int (some ⟨g4, 0, none⟩) B m d ms 71 _ w13 (row_on HQ4.out HB13.out) (row_on HM4.out HB13.out) (fun b hb => hb) (by omega))
    clear hb13 H13 y0 y1 y2 z0 z1 z2
    go_wp2_with fail
    refine H14.out.mono ?_
    rintro e w14 ⟨rfl, hb14⟩
    have HB14 := Lib.hid (HB4.out.trans ((HB13.out.trans (hb14.mono HB13.out.size)).mono HB4.out.size))
    clear hb14 H14
    go_wp2
    go_ret
    exact ⟨rfl, HB14.out⟩
set_option maxRecDepth 100000 in
theorem lifted (os : Os) (started : os.Started) (H : Type) (enc : TypeId × Value → H) :
    ReturnsInHanded {} Tryz.checked os 3 .any (Rows.cutRawSpec.pre6 enc Tryz.prog Tryz.f3 Rows.cutRawRow.domain false) (Rows.cutRawSpec.post enc Tryz.prog Tryz.f3 false true false false) := by
  refine returnsInHanded_of_change (C := Tryz.checked) own started (by kernel_rfl) Tryz.func3
    (ChangeSpec.witness6 (enc := enc) (C := Tryz.checked) false ⟨#[], #[.agg #[.string ⟨#[]⟩, .int .i64 0, .int .i64 0, .string ⟨#[]⟩, .string ⟨#[]⟩, .bool false, .slice none 0 0, .slice none 0 0, .int .i64 0, .int .i64 0, .int .i64 0, .int .i64 0, .int .i64 0, .slice none 0 0, .slice none 0 0], .slice none 0 0, .slice none 0 0, .int .i64 0], []⟩ 8 (by kernel_rfl) (by kernel_rfl) (by kernel_rfl) (by kernel_rfl)) ?_
  intro W base args ds gs before hval0 hW hcnd _
  have hval : ∀ (j : Nat) t v, Tryz.f3.params[j]? = some t → args[j]? = some v → Value.okWide Tryz.prog W .any base t v := hval0
  have hW' := hW
  obtain ⟨p, q, hA0, hV, rfl, hfz, hnd⟩ := hW
  have hA : DataW.TrodAll enc Tryz.prog W 0 (fun _ => true) true Tryz.f3.params.toList args.toList ds p := hA0
  rw [Tryz.params3] at hA hval
  obtain ⟨v0, vs0, d0, ds0, p0, q0, hargs, rfl, rfl, h0, r0⟩ := trodAll_cons hA
  obtain ⟨v1, vs1, d1, ds1, p1, q1, rfl, rfl, rfl, h1, r1⟩ := trodAll_cons r0
  obtain ⟨v2, vs2, d2, ds2, p2, q2, rfl, rfl, rfl, h2, r2⟩ := trodAll_cons r1
  obtain ⟨v3, vs3, d3, ds3, p3, q3, rfl, rfl, rfl, h3, r3⟩ := trodAll_cons r2
  obtain ⟨rfl, rfl, rfl⟩ := trodAll_nil r3
  obtain rfl : args = #[v0, v1, v2, v3] := by cases args; simp_all
  obtain ⟨cs0, p0, rfl, r0⟩ := Kd.open_struct Ap.reads_Prm Tryz.underlying28 (hval 0 28 v0 rfl rfl) h0; obtain ⟨l0, rfl, x0⟩ := Ap.Prm_rep.1 r0
  obtain ⟨A1, n1, c1, xs1, rfl, x1, y1⟩ := Kd.open_list Ap.reads_Unt Tryz.underlying29 (by decide) (hval 1 29 v1 rfl rfl) h1
  obtain ⟨A2, n2, c2, xs2, rfl, x2, y2⟩ := Kd.open_list (Kd.Reads.int Tryz.underlying3 (by kernel_rfl)) Tryz.underlying30 (by decide) (hval 2 30 v2 rfl rfl) h2
  obtain ⟨a3, rfl, _, _, w3⟩ := open_int Tryz.underlying2 (hval 3 2 v3 rfl rfl) h3
  refine (walk W p0 l0 x0 A1 n1 c1 xs1 x1 y1 A2 n2 c2 xs2 x2 y2 a3 w3).mono fun e W' ⟨he, hb⟩ => ?_
  subst he
  exact ⟨_, rfl, Hk.closeLaw (tb := 4) (by kernel_rfl) (by kernel_rfl) rfl rfl rfl Tryz.underlying4 hW' hb⟩
theorem over : Rows.cutRawRow.holds Tryz.pinned (OpenSpec.ofChange Rows.cutRawSpec) :=
  OpenClaim.holds_of_wide 3 Tryz.f3 rfl rfl rfl rfl rfl rfl rfl ⟨rfl, rfl, rfl, rfl, rfl⟩ rfl rfl rfl rfl rfl (by kernel_rfl) Tryz.func3 (by kernel_rfl)
    (of_decide_eq_true (by kernel_rfl)) (by unfold Func.isWrapper; first | (rw [if_pos (by decide +kernel)]; kernel_rfl) | (rw [if_neg (by decide +kernel)]; exact ⟨rfl, rfl⟩))
    (fun os started H enc _ => lifted os started H enc)
theorem proved : Rows.CutRawSaid :=
  over
end Go.Proofs.YtacmoanhbkipfaaGreat.cutRaw
