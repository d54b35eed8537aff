/- P15.1, P15.2: the last tier that is reached counts; just below the first one nothing is taken off; for every slice of units and three numbers. No conditions. -/
import Derived.Test.YtacmoanhbkipfaaPk0
import Derived.Test.YtacmoanhbkipfaaPk22
import Derived.Test.YtacmoanhbkipfaaPk8

set_option maxRecDepth 100000
namespace Go.Proofs.Ytacmoanhbkipfaa.cutTiers
open Go.ChangeShapes Go.WideShapes Go.ChangeAt Go.RowKit
open Ap (Scp Prt Tir Prm Unt kPrm kPrt kTir kUnt row_Prm row_Unt row_Tir)
open Kd (Kind Row Cells Fit Agree Lst Sl kStr kInt row_int)
open Ko (Out Told Told2 At row_on)
open Ct
set_option maxRecDepth 100000
set_option linter.unusedVariables false
theorem own : ownKnob Try.prog.godebug = none := by kernel_rfl
set_option maxHeartbeats 8000000 in
theorem walk (w : World) (A : Option Addr) (n c : Nat) (us : List Unt) (hU : Row kUnt w (· < w.heap.size) A n us) (hfU : Kd.Fit A n c) (le : Int) (wl : (Lit.int .i64 le).wf = true) (ra : Int) (wr : (Lit.int .i64 ra).wf = true) (st : Int) (ws : (Lit.int .i64 st).wf = true) :
    Calls Try.prog 5 #[.slice A n c, .int .i64 le, .int .i64 ra, .int .i64 st] w fun e w' => e = .returned (.bool true) ∧ Below w.heap.size w w' := by
  by_cases h2 : 200 < n
  · have i2 : (200 : Int) < (n : Int) := by omega
    have HA := Lib.hid (awake_any w)
    clear hU hfU
    go_enter Try.func5, Try.ntmps5
    go_wp2_with fail
    refine HA.out.mono ?_
    rintro e w1 ⟨rfl, hb⟩
    have HB := Lib.hid hb
    clear hb
    go_wp2
    go_ret
    exact ⟨rfl, HB.out⟩
  have i2 : ¬ (200 : Int) < (n : Int) := by omega
  have H1 := units_any A n c us w hU (by omega)
  unfold Ko.Told at H1
  have hmay := units_may us 9223372036854775807
  have hmost := nets_most us 9223372036854775807
  have hk60 := unitsOf_length us
  obtain ⟨vs, hvs⟩ : ∃ vs, unitsOf us = vs := ⟨_, rfl⟩
  rw [hvs] at H1 hmay hmost hk60
  obtain ⟨k, hk⟩ : ∃ k, vs.length = k := ⟨_, rfl⟩
  simp only [hk] at H1
  rw [hk] at hk60
  have hpl : (mineL 9223372036854775807 vs).length ≤ 60 := by have := mineFrom_length 9223372036854775807 0 vs; unfold mineL; omega
  obtain ⟨ps, hps⟩ : ∃ ps, mineL 9223372036854775807 vs = ps := ⟨_, rfl⟩
  rw [hps] at hmay hmost hpl
  obtain ⟨j, hj⟩ : ∃ j, ps.length = j := ⟨_, rfl⟩
  rw [hj] at hpl
  have hnets := nets_ok hmay
  obtain ⟨S, hS⟩ : ∃ S, sumL (netsL vs ps) = S := ⟨_, rfl⟩
  have hS0 := hnets.sums.2
  rw [hS] at hmost hS0
  have HMy := Lib.hid (And.intro hmay (And.intro hnets (And.intro hS (And.intro hk (And.intro hj hps)))))
  have H1h := Lib.hid H1
  clear hU hfU H1 hmay hvs hk hps hj hnets hS h2
  go_enter Try.func5, Try.ntmps5
  go_wp2_with fail
  refine H1h.out.mono ?_
  rintro e w1 ⟨A1, c1, rfl, ho1, hb1⟩
  have HU1 := Lib.hid ho1.read
  have HF1 := Lib.hid ho1.fit
  have HB1 := Lib.hid hb1
  have H2 := mine_any A1 k c1 vs 9223372036854775807 w1 HU1.out (by omega) (by decide) (by decide)
  unfold Ko.Told at H2
  rw [HMy.out.2.2.2.2.2] at H2
  simp only [HMy.out.2.2.2.2.1] at H2
  have H2h := Lib.hid H2
  clear ho1 hb1 H1h H2
  go_wp2_with fail
  refine H2h.out.mono ?_
  rintro e w2 ⟨A2, c2, rfl, ho2, hb2⟩
  have HM2 := Lib.hid ho2.read
  have HU2 := Lib.hid (row_on HU1.out hb2)
  have HB2 := Lib.hid (HB1.out.trans (hb2.mono HB1.out.size))
  clear ho2 hb2 H2h HU1 HB1
  go_wp2_with fail
  go_loopw [10, 11] (fun s10 s11 wr => ∃ i : Nat, s11 = .int .i64 i ∧ s10 = .int .i64 (sumL ((netsL vs ps).take i)) ∧ i ≤ j ∧ w2 = wr) (fun _ s11 _ => j - (intOf s11).toNat)
  case atStart => exact ⟨0, rfl, rfl, by omega, rfl⟩
  case round =>
    obtain ⟨i, rfl, rfl, hi, hw⟩ := hrel
    obtain rfl := hw
    have ii : (0 : Int) ≤ (i : Int) := by omega
    by_cases hlt : i < j
    · obtain ⟨x, hx⟩ := HM2.out.get hlt
      obtain ⟨x0, u, hu, _⟩ := HMy.out.1.places.at_ i x hx
      obtain ⟨t, ht⟩ : ∃ t : Nat, x = (t : Int) := ⟨x.toNat, by omega⟩
      subst ht
      rw [Int.toNat_natCast] at hu
      have htn : t < k := by have := (List.getElem?_eq_some_iff.1 hu).1; have := HMy.out.2.2.2.1; omega
      obtain ⟨g, o, rfl, _, _, _, a0⟩ := row_int HM2.out hx
      obtain ⟨g2, o2, rfl, _, _, _, _, b1, _⟩ := row_Unt HU2.out hu
      have hn : (netsL vs ps)[i]? = some u.net := by
        unfold netsL
        rw [List.getElem?_map, hx]
        show some (netAt vs (t : Int)) = _
        unfold netAt
        rw [Int.toNat_natCast, hu]
      have e1 := sumL_next hn
      have b2 := HMy.out.2.1.sums.1 (i + 1)
      rw [e1] at b2
      obtain ⟨s0, hs0⟩ : ∃ z, sumL ((netsL vs ps).take i) = z := ⟨_, rfl⟩
      rw [hs0] at e1 b2
      obtain ⟨s1, hs1⟩ : ∃ z, s0 + u.net = z := ⟨_, rfl⟩
      rw [hs1] at e1 b2
      have w1' : IntKind.i64.wrap (s0 + u.net) = s1 := by rw [hs1]; exact IntWalk.i64_in _ (by omega)
      have HE := Lib.hid e1
      have k1 : (i : Int) < (j : Int) := by omega
      have t0 : (0 : Int) ≤ (t : Int) := by omega
      have t1 : (t : Int) < (k : Int) := by omega
      clear hx hu hn e1 b2 hs1 x0
      simp only [hs0]
      clear hs0
      go_wp2
      go_roundw
      case rel => exact ⟨i + 1, by go_num, by rw [HE.out], by omega, (by first | trivial | rfl)⟩
      case measure => simp [intOf]; omega
    · have k1 : ¬ (i : Int) < (j : Int) := by omega
      obtain rfl : i = j := by omega
      have hall : sumL ((netsL vs ps).take i) = S := by rw [List.take_of_length_le (by unfold netsL; rw [List.length_map, HMy.out.2.2.2.2.1]; omega)]; exact HMy.out.2.2.1
      rw [hall]
      have ws3 : IntKind.i64.wrap (S + 3) = S + 3 := IntWalk.i64_in _ (by omega)
      have a1 := Py.modN_lt le (S + 3) (by omega)
      have a2 := Py.modN_lt ra 5000 (by omega)
      have a3 := Py.modN_lt st 50 (by omega)
      have M1 := fun W => Py.mod64_any le (S + 3) W (by omega) (by omega)
      have M2 := fun W => Py.mod64_any ra 5000 W (by omega) (by omega)
      have M3 := fun W => Py.mod64_any st 50 W (by omega) (by omega)
      obtain ⟨x1, hx1⟩ : ∃ x, Py.modN le (S + 3) = x := ⟨_, rfl⟩
      obtain ⟨x2, hx2⟩ : ∃ x, Py.modN ra 5000 = x := ⟨_, rfl⟩
      obtain ⟨x3, hx3⟩ : ∃ x, Py.modN st 50 = x := ⟨_, rfl⟩
      rw [hx1] at a1 M1
      rw [hx2] at a2 M2
      rw [hx3] at a3 M3
      obtain ⟨L, hL⟩ : ∃ z, 1 + (x1 : Int) = z := ⟨_, rfl⟩
      obtain ⟨R, hR⟩ : ∃ z, 1 + (x2 : Int) = z := ⟨_, rfl⟩
      obtain ⟨T, hT⟩ : ∃ z, 1 + (x3 : Int) = z := ⟨_, rfl⟩
      have wL : IntKind.i64.wrap (1 + (x1 : Int)) = L := by rw [hL]; exact IntWalk.i64_in _ (by omega)
      have wR : IntKind.i64.wrap (1 + (x2 : Int)) = R := by rw [hR]; exact IntWalk.i64_in _ (by omega)
      have wT : IntKind.i64.wrap (1 + (x3 : Int)) = T := by rw [hT]; exact IntWalk.i64_in _ (by omega)
      have bL : 1 ≤ L ∧ L ≤ 200000 := by omega
      have bR : 1 ≤ R ∧ R ≤ 5000 := by omega
      have bT : 1 ≤ T ∧ T ≤ 50 := by omega
      obtain ⟨LT, hLT⟩ : ∃ z, L + T = z := ⟨_, rfl⟩
      have wLT : IntKind.i64.wrap (L + T) = LT := by rw [hLT]; exact IntWalk.i64_in _ (by omega)
      have bLT : L < LT ∧ LT ≤ 200050 := by omega
      have hoff := tie_off (le := L) (ra := R) (st := T) HMy.out.1 bL bR bT
      rw [hLT, HMy.out.2.2.1] at hoff
      obtain ⟨W3, hW3⟩ : ∃ W3, w2.alloc (.cells #[.int .i64 L, .int .i64 R, .int .i64 0, .int .i64 LT, .int .i64 0, .int .i64 7] 48) = W3 := ⟨_, rfl⟩
      have hb3 : Below w2.heap.size w2 W3 := by rw [← hW3]; exact (Below.refl _ _).alloc (Nat.le_refl _) _
      have hs3 : W3.heap.size = w2.heap.size + 1 := by rw [← hW3]; simp
      have ht3 : Qu.Blk W3 w2.heap.size 48 #[.int .i64 L, .int .i64 R, .int .i64 0, .int .i64 LT, .int .i64 0, .int .i64 7] := by rw [← hW3]; exact Qu.Blk.new w2 _ _
      obtain ⟨W4, hW4⟩ : ∃ W4, W3.alloc (.cells #[.string ⟨#[97]⟩, .int .i64 5, .int .i64 0, .string ⟨#[]⟩, .string ⟨#[]⟩, .bool false, .slice none 0 0, .slice none 0 0, .int .i64 0, .int .i64 0, .int .i64 0, .int .i64 0, .int .i64 0, .slice none 0 0, .slice (some ⟨w2.heap.size, 0, none⟩) 2 2] 28) = W4 := ⟨_, rfl⟩
      have hb4 : Below w2.heap.size w2 W4 := by rw [← hW4]; exact hb3.alloc hb3.size _
      have hx4 : Qu.Blk W4 W3.heap.size 28 #[.string ⟨#[97]⟩, .int .i64 5, .int .i64 0, .string ⟨#[]⟩, .string ⟨#[]⟩, .bool false, .slice none 0 0, .slice none 0 0, .int .i64 0, .int .i64 0, .int .i64 0, .int .i64 0, .int .i64 0, .slice none 0 0, .slice (some ⟨w2.heap.size, 0, none⟩) 2 2] := by rw [← hW4]; exact Qu.Blk.new W3 _ _
      have ht4 : Qu.Blk W4 w2.heap.size 48 #[.int .i64 L, .int .i64 R, .int .i64 0, .int .i64 LT, .int .i64 0, .int .i64 7] := by rw [← hW4]; exact ht3.alloc _
      rw [hs3] at hx4
      have hh4 := tie_holds (s := ⟨L, R, 0⟩) (t := ⟨LT, 0, 7⟩) ⟨by show -9223372036854775808 ≤ L ∧ L ≤ 9223372036854775807; omega, by show -9223372036854775808 ≤ R ∧ R ≤ 9223372036854775807; omega, by show -9223372036854775808 ≤ (0 : Int) ∧ (0 : Int) ≤ 9223372036854775807; omega⟩ ⟨by show -9223372036854775808 ≤ LT ∧ LT ≤ 9223372036854775807; omega, by show -9223372036854775808 ≤ (0 : Int) ∧ (0 : Int) ≤ 9223372036854775807; omega, by show -9223372036854775808 ≤ (7 : Int) ∧ (7 : Int) ≤ 9223372036854775807; omega⟩ ht4
      have H5 := lapply_any (tieP ⟨L, R, 0⟩ ⟨LT, 0, 7⟩) (tieLay w2.heap.size) A1 k c1 vs A2 i c2 ps W4 hh4 (small_of hh4 (show 0 ≤ 40 by decide) (show 0 ≤ 40 by decide) (show 0 ≤ 20 by decide) (show 2 ≤ 20 by decide)) (row_on HU2.out hb4) HF1.out (row_on HM2.out hb4) (by omega) (by omega)
      unfold Ko.Told2 at H5
      rw [hoff] at H5
      obtain ⟨ys, hys⟩ : ∃ ys, (applyU (tieP ⟨L, R, 0⟩ ⟨LT, 0, 7⟩) vs ps).1 = ys := ⟨_, rfl⟩
      obtain ⟨y, hy⟩ : ∃ y, ys.length = y := ⟨_, rfl⟩
      simp only [hys, hy] at H5
      obtain ⟨z, hz⟩ : ∃ z, (if LT ≤ S then min 7 S else if L ≤ S then (2 * (S * R) + 10000) / 20000 else 0) = z := ⟨_, rfl⟩
      rw [hz] at H5
      have H5h : Hid (Calls Try.prog 11 #[.agg #[.string ⟨#[97]⟩, .int .i64 5, .int .i64 0, .string ⟨#[]⟩, .string ⟨#[]⟩, .bool false, .slice none 0 0, .slice none 0 0, .int .i64 0, .int .i64 0, .int .i64 0, .int .i64 0, .int .i64 0, .slice none 0 0, .slice (some ⟨w2.heap.size, 0, none⟩) 2 2], .slice A1 k c1, .slice A2 i c2] W4 fun e w' => ∃ (A : Option Addr) (c : Nat), e = .returned (.tuple #[.slice A y c, .int .i64 z]) ∧ Kd.Own kUnt w' W4.heap.size 41 (fun _ => False) (.slice A y c) y ys ∧ Below W4.heap.size W4 w') := Lib.hid H5
      have HB4 := Lib.hid (HB2.out.trans (hb4.mono HB2.out.size))
      have HX4 := Lib.hid hx4
      have HZ := Lib.hid hz
      have hw3 := Lib.hid hW3
      have hw4 := Lib.hid hW4
      have hs3h := Lib.hid hs3
      obtain ⟨S2, P, Q, V, hT5⟩ := tnum (S := S) (R := R) ⟨hS0, hmost⟩ bR
      have HT5 := Lib.hid hT5
      have hLTh := Lib.hid hLT
      clear a1 a2 a3 hx1 hx2 hx3 hL hR hT hoff hb3 ht3 hb4 hx4 ht4 hh4 H5 hys hy hz hT5 HM2 HU2 HB2 hall hLT hW3 hW4 hs3
      go_wp2_with fail
      refine (M1 _).mono ?_
      rintro e wz ⟨rfl, hw⟩
      obtain rfl := hw.symm
      go_wp2_with fail
      refine (M2 _).mono ?_
      rintro e wz ⟨rfl, hw⟩
      obtain rfl := hw.symm
      go_wp2_with fail
      refine (M3 _).mono ?_
      rintro e wz ⟨rfl, hw⟩
      obtain rfl := hw.symm
      clear M1 M2 M3
      go_upto_region 12 with (fail)
      rw [hw3.out, hw4.out]
      clear hw3 hw4
      have x0 := HX4.out.cell 0
      have x1 := HX4.out.cell 1
      have x2 := HX4.out.cell 2
      have x3 := HX4.out.cell 3
      have x4 := HX4.out.cell 4
      have x5 := HX4.out.cell 5
      have x6 := HX4.out.cell 6
      have x7 := HX4.out.cell 7
      have x8 := HX4.out.cell 8
      have x9 := HX4.out.cell 9
      have x10 := HX4.out.cell 10
      have x11 := HX4.out.cell 11
      have x12 := HX4.out.cell 12
      have x13 := HX4.out.cell 13
      have x14 := HX4.out.cell 14
      go_wp2_with fail
      refine H5h.out.mono ?_
      rintro e w5 ⟨A5, c5, rfl, _, hb5⟩
      have HB5 := Lib.hid (HB4.out.trans (hb5.mono HB4.out.size))
      clear hb5 H5h HX4 x0 x1 x2 x3 x4 x5 x6 x7 x8 x9 x10 x11 x12 x13 x14 wL wR wT ws3
      by_cases c1' : LT ≤ S
      · have c2' : L ≤ S := by omega
        have hmin : min 7 S = z := by have := HZ.out; rw [if_pos c1'] at this; exact this
        obtain ⟨q1, q2, q3, q4, q5, q6, q7, q8, q9, -⟩ := HT5.out
        have HA := Lib.hid (awake_any w5)
        clear HZ
        go_wp2_with fail
        refine HA.out.mono ?_
        rintro e w6 ⟨rfl, hb6⟩
        have HB6 := Lib.hid (HB5.out.trans (hb6.mono HB5.out.size))
        clear hb6
        go_wp2
        go_ret
        exact ⟨rfl, HB6.out⟩
      · by_cases c2' : L ≤ S
        · have hV : V = z := by have := HZ.out; rw [if_neg c1', if_pos c2'] at this; rw [← this]; exact HT5.out.e
          obtain ⟨q1, q2, q3, q4, q5, q6, q7, q8, q9, -⟩ := HT5.out
          subst hV
          have HA := Lib.hid (awake_any w5)
          clear HZ
          go_wp2_with fail
          refine HA.out.mono ?_
          rintro e w6 ⟨rfl, hb6⟩
          have HB6 := Lib.hid (HB5.out.trans (hb6.mono HB5.out.size))
          clear hb6
          go_wp2
          go_ret
          exact ⟨rfl, HB6.out⟩
        · have hV : 0 = z := by have := HZ.out; rw [if_neg c1', if_neg c2'] at this; exact this
          subst hV
          have HA := Lib.hid (awake_any w5)
          clear HZ
          go_wp2_with fail
          refine HA.out.mono ?_
          rintro e w6 ⟨rfl, hb6⟩
          have HB6 := Lib.hid (HB5.out.trans (hb6.mono HB5.out.size))
          clear hb6
          go_wp2
          go_ret
          exact ⟨rfl, HB6.out⟩
set_option maxRecDepth 100000 in
theorem lifted (os : Os) (started : os.Started) (H : Type) (enc : TypeId × Value → H) :
    ReturnsInHanded {} Try.checked os 5 .any (Rows.cutTiersSpec.pre6 enc Try.prog Try.f5 Rows.cutTiersRow.domain false) (Rows.cutTiersSpec.post enc Try.prog Try.f5 false true false false) := by
  refine returnsInHanded_of_change (C := Try.checked) own started (by kernel_rfl) Try.func5
    (ChangeSpec.witness6 (enc := enc) (C := Try.checked) false ⟨#[], #[.slice none 0 0, .int .i64 0, .int .i64 0, .int .i64 0], []⟩ 8 (by kernel_rfl) (by kernel_rfl) (by kernel_rfl) (by kernel_rfl)) ?_
  intro W base args ds gs before hval0 hW hcnd _
  have hval : ∀ (j : Nat) t v, Try.f5.params[j]? = some t → args[j]? = some v → Value.okWide Try.prog W .any base t v := hval0
  have hW' := hW
  obtain ⟨p, q, hA0, hV, rfl, hfz, hnd⟩ := hW
  have hA : DataW.TrodAll enc Try.prog W 0 (fun _ => true) true Try.f5.params.toList args.toList ds p := hA0
  rw [Try.params5] at hA hval
  obtain ⟨v0, vs0, d0, ds0, p0, q0, hargs, rfl, rfl, h0, r0⟩ := trodAll_cons hA
  obtain ⟨v1, vs1, d1, ds1, p1, q1, rfl, rfl, rfl, h1, r1⟩ := trodAll_cons r0
  obtain ⟨v2, vs2, d2, ds2, p2, q2, rfl, rfl, rfl, h2, r2⟩ := trodAll_cons r1
  obtain ⟨v3, vs3, d3, ds3, p3, q3, rfl, rfl, rfl, h3, r3⟩ := trodAll_cons r2
  obtain ⟨rfl, rfl, rfl⟩ := trodAll_nil r3
  obtain rfl : args = #[v0, v1, v2, v3] := by cases args; simp_all
  obtain ⟨A0, n0, c0, xs0, rfl, x0, y0⟩ := Kd.open_list Ap.reads_Unt Try.underlying29 (by decide) (hval 0 29 v0 rfl rfl) h0
  obtain ⟨a1, rfl, _, _, w1⟩ := open_int Try.underlying2 (hval 1 2 v1 rfl rfl) h1
  obtain ⟨a2, rfl, _, _, w2⟩ := open_int Try.underlying2 (hval 2 2 v2 rfl rfl) h2
  obtain ⟨a3, rfl, _, _, w3⟩ := open_int Try.underlying2 (hval 3 2 v3 rfl rfl) h3
  refine (walk W A0 n0 c0 xs0 x0 y0 a1 w1 a2 w2 a3 w3).mono fun e W' ⟨he, hb⟩ => ?_
  subst he
  exact ⟨_, rfl, Hk.closeLaw (tb := 4) (by kernel_rfl) (by kernel_rfl) rfl rfl rfl Try.underlying4 hW' hb⟩
theorem over : Rows.cutTiersRow.holds Try.pinned (OpenSpec.ofChange Rows.cutTiersSpec) :=
  OpenClaim.holds_of_wide 5 Try.f5 rfl rfl rfl rfl rfl rfl rfl ⟨rfl, rfl, rfl, rfl, rfl⟩ rfl rfl rfl rfl rfl (by kernel_rfl) Try.func5 (by kernel_rfl)
    (of_decide_eq_true (by kernel_rfl)) (by unfold Func.isWrapper; first | (rw [if_pos (by decide +kernel)]; kernel_rfl) | (rw [if_neg (by decide +kernel)]; exact ⟨rfl, rfl⟩))
    (fun os started H enc _ => lifted os started H enc)
theorem proved : Rows.CutTiersSaid :=
  over
end Go.Proofs.Ytacmoanhbkipfaa.cutTiers
