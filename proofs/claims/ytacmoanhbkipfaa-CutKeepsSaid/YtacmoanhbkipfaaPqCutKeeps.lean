/- What is taken off is what the Nets are less; nothing is below 0; who is not asked is as it was; nothing opens; for every promo, slice of units, and bits. No conditions. -/
import Derived.Test.YtacmoanhbkipfaaPq0
import Derived.Test.YtacmoanhbkipfaaPq26

set_option maxRecDepth 100000
namespace Go.Proofs.Ytacmoanhbkipfaa.cutKeeps
open Go.ChangeShapes Go.WideShapes Go.ChangeAt Go.RowKit
open Ap (Scp Prt Tir Prm Unt kPrm kPrt kTir kUnt row_Prm row_Unt row_Tir)
open Kd (Kind Row Cells Fit Agree Lst Sl kStr kInt row_int)
open Ko (Out Told Told2 At row_on)
open Ct
set_option maxRecDepth 100000
set_option linter.unusedVariables false
theorem own : ownKnob Try.prog.godebug = none := by kernel_rfl
theorem bits_in {a : Int} (h : (Lit.int .u64 a).wf = true) : 0 ≤ a ∧ a < 18446744073709551616 := by
  have h1 := Hk.wf_bounds h
  have h2 : IntKind.u64.min = 0 := rfl
  have h3 : IntKind.u64.max = 18446744073709551615 := rfl
  omega
set_option maxHeartbeats 16000000 in
theorem walk (w : World) (p : Prm) (l : Prm.Lay) (hP : Ap.Prm.Holds w (· < w.heap.size) p l) (A : Option Addr) (n c : Nat) (us : List Unt) (hU : Row kUnt w (· < w.heap.size) A n us) (hfU : Kd.Fit A n c) (bits : Int) (wbits : (Lit.int .u64 bits).wf = true) :
    Calls Try.prog 3 #[.agg #[.string p.id, .int .i64 p.kind, .int .i64 p.priority, .string p.group, .string p.code, .bool p.closes, .slice l.scope.skus.A l.scope.skus.n l.scope.skus.c, .slice l.scope.cats.A l.scope.cats.n l.scope.cats.c, .int .i64 p.least, .int .i64 p.rate, .int .i64 p.amount, .int .i64 p.buy, .int .i64 p.get, .slice l.parts.A l.parts.n l.parts.c, .slice l.tiers.A l.tiers.n l.tiers.c], .slice A n c, .int .u64 bits] w fun e w' => e = .returned (.bool true) ∧ Below w.heap.size w w' := by
  obtain ⟨W1, hW1⟩ : ∃ W1, w.alloc (.cells #[.string p.id, .int .i64 p.kind, .int .i64 p.priority, .string p.group, .string p.code, .bool p.closes, .slice l.scope.skus.A l.scope.skus.n l.scope.skus.c, .slice l.scope.cats.A l.scope.cats.n l.scope.cats.c, .int .i64 p.least, .int .i64 p.rate, .int .i64 p.amount, .int .i64 p.buy, .int .i64 p.get, .slice l.parts.A l.parts.n l.parts.c, .slice l.tiers.A l.tiers.n l.tiers.c] 28) = W1 := ⟨_, rfl⟩
  have hb1 : Below w.heap.size w W1 := by rw [← hW1]; exact (Below.refl _ _).alloc (Nat.le_refl _) _
  have hx1 : Qu.Blk W1 w.heap.size 28 #[.string p.id, .int .i64 p.kind, .int .i64 p.priority, .string p.group, .string p.code, .bool p.closes, .slice l.scope.skus.A l.scope.skus.n l.scope.skus.c, .slice l.scope.cats.A l.scope.cats.n l.scope.cats.c, .int .i64 p.least, .int .i64 p.rate, .int .i64 p.amount, .int .i64 p.buy, .int .i64 p.get, .slice l.parts.A l.parts.n l.parts.c, .slice l.tiers.A l.tiers.n l.tiers.c] := by rw [← hW1]; exact Qu.Blk.new w _ _
  have HFw := Lib.hid (few_any p l A n c W1 (Pr.holds_later hP hb1))
  have HB1 := Lib.hid hb1
  have HBits := Lib.hid (bits_in wbits)
  have x0 := hx1.cell 0
  have x1 := hx1.cell 1
  have x2 := hx1.cell 2
  have x3 := hx1.cell 3
  have x4 := hx1.cell 4
  have x5 := hx1.cell 5
  have x6 := hx1.cell 6
  have x7 := hx1.cell 7
  have x8 := hx1.cell 8
  have x9 := hx1.cell 9
  have x10 := hx1.cell 10
  have x11 := hx1.cell 11
  have x12 := hx1.cell 12
  have x13 := hx1.cell 13
  have x14 := hx1.cell 14
  have HX := Lib.hid hx1
  have HP := Lib.hid hP
  have HU := Lib.hid hU
  have HVs := Lib.hid (unitsOf_may us)
  clear hx1 hb1 hP hU hfU
  go_enter Try.func3, Try.ntmps3
  go_wp2_with fail
  clear hW1
  refine HFw.out.mono ?_
  rintro e w2 ⟨b, rfl, hfew, hb2⟩
  clear x0 x1 x2 x3 x4 x5 x6 x7 x8 x9 x10 x11 x12 x13 x14
  cases b with
  | false =>
    clear hfew HFw HX HP HU HVs HBits
    have HA := Lib.hid (awake_any w2)
    have HB := Lib.hid (HB1.out.trans (hb2.mono HB1.out.size))
    go_wp2_with fail
    refine HA.out.mono ?_
    rintro e w3 ⟨rfl, hb3⟩
    have HB3 := Lib.hid (HB.out.trans (hb3.mono HB.out.size))
    clear hb3
    go_wp2
    go_ret
    exact ⟨rfl, HB3.out⟩
  | true =>
    have hfw := hfew rfl
    have hn2 : n ≤ 200 := hfw.units
    have HS := Lib.hid (small_of HP.out hfw.skus hfw.cats hfw.parts hfw.tiers)
    have HX2 := Lib.hid (HX.out.below hb2)
    have HB2 := Lib.hid (HB1.out.trans (hb2.mono HB1.out.size))
    obtain ⟨vs, hvs⟩ : ∃ vs, unitsOf us = vs := ⟨_, rfl⟩
    have hk60 : vs.length ≤ 60 := by rw [← hvs]; exact unitsOf_length us
    obtain ⟨k, hk⟩ : ∃ k, vs.length = k := ⟨_, rfl⟩
    rw [hk] at hk60
    rw [hvs] at HVs
    clear hfew hfw hb2 HFw HX HB1
    have hz3 := HX2.out
    have hlt3 := hz3.lt
    have HLt := Lib.hid hlt3
    have HB3 := Lib.hid HB2.out
    have hz0 := hz3.drew
    have hpk := holds_in HP.out HB2.out
    have hPr := fun (u : World) (hu : Mv.Only w2 u (Mv.one w.heap.size)) => simple2_any p l u (holds_only hpk hlt3 hu) HS.out
    obtain ⟨q, hq⟩ : ∃ q, Py.nearP (simP p) 1 = q := ⟨_, rfl⟩
    simp only [hq] at hPr
    unfold MadeN at hPr
    have HPr : Hid (∀ (u : World), Mv.Only w2 u (Mv.one w.heap.size) → Calls Try.prog 9 #[.agg #[.string p.id, .int .i64 p.kind, .int .i64 p.priority, .string p.group, .string p.code, .bool p.closes, .slice l.scope.skus.A l.scope.skus.n l.scope.skus.c, .slice l.scope.cats.A l.scope.cats.n l.scope.cats.c, .int .i64 p.least, .int .i64 p.rate, .int .i64 p.amount, .int .i64 p.buy, .int .i64 p.get, .slice l.parts.A l.parts.n l.parts.c, .slice l.tiers.A l.tiers.n l.tiers.c]] u fun e w' => ∃ m : Prm.Lay, e = .returned (.agg #[.string q.id, .int .i64 q.kind, .int .i64 q.priority, .string q.group, .string q.code, .bool q.closes, .slice m.scope.skus.A m.scope.skus.n m.scope.skus.c, .slice m.scope.cats.A m.scope.cats.n m.scope.cats.c, .int .i64 q.least, .int .i64 q.rate, .int .i64 q.amount, .int .i64 q.buy, .int .i64 q.get, .slice m.parts.A m.parts.n m.parts.c, .slice m.tiers.A m.tiers.n m.tiers.c]) ∧ Pr.promoB q = true ∧ (q.scope.skus.length ≤ 8 ∧ q.scope.cats.length ≤ 8 ∧ q.tiers.length ≤ 6 ∧ q.parts.length ≤ 3) ∧ Py.Anew u w' q m) := Lib.hid hPr
    have hUn := fun (u : World) (hu : Mv.Only w2 u (Mv.one w.heap.size)) => units_any A n c us u (((HU.out.below HB2.out (Nat.le_refl _)).stay (fun b hb => hu.block b (by omega) fun e => by have : b = w.heap.size := e; omega)).more (fun b hb => by have := hu.size; omega)) (by omega)
    unfold Ko.Told at hUn
    simp only [hvs, hk] at hUn
    have HUn := Lib.hid hUn
    have x0 := hz3.cell 0
    have x1 := hz3.cell 1
    have x2 := hz3.cell 2
    have x3 := hz3.cell 3
    have x4 := hz3.cell 4
    have x5 := hz3.cell 5
    have x6 := hz3.cell 6
    have x7 := hz3.cell 7
    have x8 := hz3.cell 8
    have x9 := hz3.cell 9
    have x10 := hz3.cell 10
    have x11 := hz3.cell 11
    have x12 := hz3.cell 12
    have x13 := hz3.cell 13
    have x14 := hz3.cell 14
    clear hlt3 hpk hPr hq hUn hz3 hvs hk
    go_upto_region 3 with (fail)
    go_cut [1] from 17 to 20 (fun s1 wx => ∃ (A3 : Option Addr) (c3 : Nat) (m : Prm.Lay), s1 = .slice A3 k c3 ∧ Hid (Turned w wx A3 k c3 vs q m ∧ Pr.promoB q = true ∧ (q.scope.skus.length ≤ 8 ∧ q.scope.cats.length ≤ 8 ∧ q.tiers.length ≤ 6 ∧ q.parts.length ≤ 3)))
    case first =>
      refine wp_region_held_drew (S := fun u => Mv.Only w2 u (Mv.one w.heap.size)) (by kernel_rfl) ((Mv.Only.refl w2 _).drew) (fun hS0 => ?_)
      refine pkT 0 17 hS0 ?_
      try simp only [Act.put, pkA, pkB, pkC]
      refine wpAnyH_ready (rs := [1, 2]) (by kernel_rfl) (by simp) ?_
      refine AllReadyH.cons (o := ⟨some 18, _, _, _, _, _⟩) rfl (fun K hK => ?_) ?_
      ·
        go_simp
        refine (HUn.out _ hS0).mono ?_
        rintro e wU ⟨A3, c3, rfl, hoU, hbU⟩
        have hyU : Mv.Only w2 wU (Mv.one w.heap.size) := Mv.Only.below hS0 hbU
        have hzU : Qu.Blk wU w.heap.size 28 #[.string p.id, .int .i64 p.kind, .int .i64 p.priority, .string p.group, .string p.code, .bool p.closes, .slice l.scope.skus.A l.scope.skus.n l.scope.skus.c, .slice l.scope.cats.A l.scope.cats.n l.scope.cats.c, .int .i64 p.least, .int .i64 p.rate, .int .i64 p.amount, .int .i64 p.buy, .int .i64 p.get, .slice l.parts.A l.parts.n l.parts.c, .slice l.tiers.A l.tiers.n l.tiers.c] := (by first | exact hzP.below hbU | exact hz0.below hbU)
        have zU0 := hzU.cell 0
        have zU1 := hzU.cell 1
        have zU2 := hzU.cell 2
        have zU3 := hzU.cell 3
        have zU4 := hzU.cell 4
        have zU5 := hzU.cell 5
        have zU6 := hzU.cell 6
        have zU7 := hzU.cell 7
        have zU8 := hzU.cell 8
        have zU9 := hzU.cell 9
        have zU10 := hzU.cell 10
        have zU11 := hzU.cell 11
        have zU12 := hzU.cell 12
        have zU13 := hzU.cell 13
        have zU14 := hzU.cell 14
        have zUf := hzU.frozen
        go_wp2_with fail
        refine hK.out _ _ (hyU) (fun hS1 => ?_)
        clear hK K
        try simp only [Act.put, pkA, pkB, pkC]
        refine wpAnyH_ready (rs := [2]) (by kernel_rfl) (by simp) ?_
        refine AllReadyH.cons (o := ⟨some 19, _, _, _, _, _⟩) rfl (fun K hK => ?_) AllReadyH.nil
        go_simp
        refine hK.out _ _ (hS1) (fun hS2 => ?_)
        clear hK K
        try simp only [Act.put, pkA, pkB, pkC]
        refine wpAnyH_ready (rs := [3]) (by kernel_rfl) (by simp) ?_
        refine AllReadyH.cons (o := ⟨some 20, _, _, _, _, _⟩) rfl (fun K hK => ?_) AllReadyH.nil
        go_simp
        refine (HPr.out _ hS2).mono ?_
        rintro e wP ⟨m, rfl, hmP, hfP, haP⟩
        have hyP : Mv.Only w2 wP (Mv.one w.heap.size) := Mv.Only.below hS2 haP.below
        have hzP : Qu.Blk wP w.heap.size 28 #[.string p.id, .int .i64 p.kind, .int .i64 p.priority, .string p.group, .string p.code, .bool p.closes, .slice l.scope.skus.A l.scope.skus.n l.scope.skus.c, .slice l.scope.cats.A l.scope.cats.n l.scope.cats.c, .int .i64 p.least, .int .i64 p.rate, .int .i64 p.amount, .int .i64 p.buy, .int .i64 p.get, .slice l.parts.A l.parts.n l.parts.c, .slice l.tiers.A l.tiers.n l.tiers.c] := (by first | exact hzU.below haP.below | exact hz0.below haP.below)
        have zP0 := hzP.cell 0
        have zP1 := hzP.cell 1
        have zP2 := hzP.cell 2
        have zP3 := hzP.cell 3
        have zP4 := hzP.cell 4
        have zP5 := hzP.cell 5
        have zP6 := hzP.cell 6
        have zP7 := hzP.cell 7
        have zP8 := hzP.cell 8
        have zP9 := hzP.cell 9
        have zP10 := hzP.cell 10
        have zP11 := hzP.cell 11
        have zP12 := hzP.cell 12
        have zP13 := hzP.cell 13
        have zP14 := hzP.cell 14
        have zPf := hzP.frozen
        go_wp2_with fail
        refine hK.out _ _ (hyP) (fun hS3 => ?_)
        clear hK K
        try simp only [Act.put, pkA, pkB, pkC]
        refine pkT 4 1 hS3 ?_
        try simp only [Act.put, pkA, pkB, pkC]
        refine wpAnyH_ready (rs := [5]) (by kernel_rfl) (by simp) ?_
        refine AllReadyH.cons (o := ⟨none, _, _, _, _, _⟩) rfl (fun K hK => ?_) AllReadyH.nil
        go_simp
        refine hK.out _ _ (Py.only_puts (q.enc m) _ 0 hS3) (fun hS4 => ?_)
        clear hK K
        try simp only [Act.put, pkA, pkB, pkC]
        refine wpAnyH_done (by kernel_rfl) ?_ _
        go_wp2_with fail
        go_meet
        first | exact ⟨A3, c3, m, rfl, Lib.hid ⟨turned_in (hoU.later haP.below) HLt.out haP hzU.lt hzP ⟨_, _, _, _, _, _, _, _, _, _, _, _, _, _, _, rfl⟩ (HB3.out.trans (hyP.toBelow (Nat.le_of_lt HLt.out) fun j hj e => by have : j = w.heap.size := e; omega)) rfl, hmP, hfP⟩⟩ | exact ⟨A3, c3, m, rfl, Lib.hid ⟨turned_in hoU hzP.lt (anew_on haP hbU) HLt.out hzU ⟨_, _, _, _, _, _, _, _, _, _, _, _, _, _, _, rfl⟩ (HB3.out.trans (hyU.toBelow (Nat.le_of_lt HLt.out) fun j hj e => by have : j = w.heap.size := e; omega)) rfl, hmP, hfP⟩⟩
      refine AllReadyH.cons (o := ⟨some 19, _, _, _, _, _⟩) rfl (fun K hK => ?_) AllReadyH.nil
      go_simp
      refine hK.out _ _ (hS0) (fun hS1 => ?_)
      clear hK K
      try simp only [Act.put, pkA, pkB, pkC]
      refine wpAnyH_ready (rs := [1]) (by kernel_rfl) (by simp) ?_
      refine AllReadyH.cons (o := ⟨some 18, _, _, _, _, _⟩) rfl (fun K hK => ?_) AllReadyH.nil
      go_simp
      refine (HUn.out _ hS1).mono ?_
      rintro e wU ⟨A3, c3, rfl, hoU, hbU⟩
      have hyU : Mv.Only w2 wU (Mv.one w.heap.size) := Mv.Only.below hS1 hbU
      have hzU : Qu.Blk wU w.heap.size 28 #[.string p.id, .int .i64 p.kind, .int .i64 p.priority, .string p.group, .string p.code, .bool p.closes, .slice l.scope.skus.A l.scope.skus.n l.scope.skus.c, .slice l.scope.cats.A l.scope.cats.n l.scope.cats.c, .int .i64 p.least, .int .i64 p.rate, .int .i64 p.amount, .int .i64 p.buy, .int .i64 p.get, .slice l.parts.A l.parts.n l.parts.c, .slice l.tiers.A l.tiers.n l.tiers.c] := (by first | exact hzP.below hbU | exact hz0.below hbU)
      have zU0 := hzU.cell 0
      have zU1 := hzU.cell 1
      have zU2 := hzU.cell 2
      have zU3 := hzU.cell 3
      have zU4 := hzU.cell 4
      have zU5 := hzU.cell 5
      have zU6 := hzU.cell 6
      have zU7 := hzU.cell 7
      have zU8 := hzU.cell 8
      have zU9 := hzU.cell 9
      have zU10 := hzU.cell 10
      have zU11 := hzU.cell 11
      have zU12 := hzU.cell 12
      have zU13 := hzU.cell 13
      have zU14 := hzU.cell 14
      have zUf := hzU.frozen
      go_wp2_with fail
      refine hK.out _ _ (hyU) (fun hS2 => ?_)
      clear hK K
      try simp only [Act.put, pkA, pkB, pkC]
      refine wpAnyH_ready (rs := [3]) (by kernel_rfl) (by simp) ?_
      refine AllReadyH.cons (o := ⟨some 20, _, _, _, _, _⟩) rfl (fun K hK => ?_) AllReadyH.nil
      go_simp
      refine (HPr.out _ hS2).mono ?_
      rintro e wP ⟨m, rfl, hmP, hfP, haP⟩
      have hyP : Mv.Only w2 wP (Mv.one w.heap.size) := Mv.Only.below hS2 haP.below
      have hzP : Qu.Blk wP w.heap.size 28 #[.string p.id, .int .i64 p.kind, .int .i64 p.priority, .string p.group, .string p.code, .bool p.closes, .slice l.scope.skus.A l.scope.skus.n l.scope.skus.c, .slice l.scope.cats.A l.scope.cats.n l.scope.cats.c, .int .i64 p.least, .int .i64 p.rate, .int .i64 p.amount, .int .i64 p.buy, .int .i64 p.get, .slice l.parts.A l.parts.n l.parts.c, .slice l.tiers.A l.tiers.n l.tiers.c] := (by first | exact hzU.below haP.below | exact hz0.below haP.below)
      have zP0 := hzP.cell 0
      have zP1 := hzP.cell 1
      have zP2 := hzP.cell 2
      have zP3 := hzP.cell 3
      have zP4 := hzP.cell 4
      have zP5 := hzP.cell 5
      have zP6 := hzP.cell 6
      have zP7 := hzP.cell 7
      have zP8 := hzP.cell 8
      have zP9 := hzP.cell 9
      have zP10 := hzP.cell 10
      have zP11 := hzP.cell 11
      have zP12 := hzP.cell 12
      have zP13 := hzP.cell 13
      have zP14 := hzP.cell 14
      have zPf := hzP.frozen
      go_wp2_with fail
      refine hK.out _ _ (hyP) (fun hS3 => ?_)
      clear hK K
      try simp only [Act.put, pkA, pkB, pkC]
      refine pkT 4 1 hS3 ?_
      try simp only [Act.put, pkA, pkB, pkC]
      refine wpAnyH_ready (rs := [5]) (by kernel_rfl) (by simp) ?_
      refine AllReadyH.cons (o := ⟨none, _, _, _, _, _⟩) rfl (fun K hK => ?_) AllReadyH.nil
      go_simp
      refine hK.out _ _ (Py.only_puts (q.enc m) _ 0 hS3) (fun hS4 => ?_)
      clear hK K
      try simp only [Act.put, pkA, pkB, pkC]
      refine wpAnyH_done (by kernel_rfl) ?_ _
      go_wp2_with fail
      go_meet
      first | exact ⟨A3, c3, m, rfl, Lib.hid ⟨turned_in (hoU.later haP.below) HLt.out haP hzU.lt hzP ⟨_, _, _, _, _, _, _, _, _, _, _, _, _, _, _, rfl⟩ (HB3.out.trans (hyP.toBelow (Nat.le_of_lt HLt.out) fun j hj e => by have : j = w.heap.size := e; omega)) rfl, hmP, hfP⟩⟩ | exact ⟨A3, c3, m, rfl, Lib.hid ⟨turned_in hoU hzP.lt (anew_on haP hbU) HLt.out hzU ⟨_, _, _, _, _, _, _, _, _, _, _, _, _, _, _, rfl⟩ (HB3.out.trans (hyU.toBelow (Nat.le_of_lt HLt.out) fun j hj e => by have : j = w.heap.size := e; omega)) rfl, hmP, hfP⟩⟩
    case rest =>
      obtain ⟨A3, c3, m, rfl, HT⟩ := hcut
      clear x0 x1 x2 x3 x4 x5 x6 x7 x8 x9 x10 x11 x12 x13 x14 hz0 HPr HUn HLt HB3 HX2 HB2
      have HSq : Hid (Pr.PrmSmall q m) := Lib.hid (small_of HT.out.1.all (by have := HT.out.2.2; omega) (by have := HT.out.2.2; omega) (by have := HT.out.2.2; omega) (by have := HT.out.2.2; omega))
      have H5 := mine_any A3 k c3 vs bits wc HT.out.1.urow (by omega) HBits.out.1 HBits.out.2
      unfold Ko.Told at H5
      have hpl : (mineL bits vs).length ≤ 60 := by have := mineFrom_length bits 0 vs; have := HT.out.1.row.len; unfold mineL; omega
      have hpm := mine_may bits vs
      obtain ⟨ps, hps⟩ : ∃ ps, mineL bits vs = ps := ⟨_, rfl⟩
      rw [hps] at H5 hpl hpm
      obtain ⟨j, hj⟩ : ∃ j, ps.length = j := ⟨_, rfl⟩
      simp only [hj] at H5
      rw [hj] at hpl
      have HMy := Lib.hid (May.mk HVs.out hpm)
      have H5h := Lib.hid H5
      clear H5 hps hj hpm
      go_wp2_with fail
      refine H5h.out.mono ?_
      rintro e w5 ⟨A5, c5, rfl, ho5, hb5⟩
      have HT5 := Lib.hid (HT.out.1.on hb5)
      have HM5 := Lib.hid ho5.read
      have H6 := lapply_any q m A3 k c3 vs A5 j c5 ps w5 HT5.out.all HSq.out HT5.out.urow HT5.out.fit HM5.out (by omega) (by omega)
      unfold Ko.Told2 at H6
      have hkp := keep_u HT.out.2.1 HMy.out
      obtain ⟨ys, hys⟩ : ∃ ys, (applyU q vs ps).1 = ys := ⟨_, rfl⟩
      obtain ⟨z, hz⟩ : ∃ z, (applyU q vs ps).2 = z := ⟨_, rfl⟩
      rw [hys, hz] at hkp
      have hylen : ys.length = k := by rw [hkp.len, HT5.out.row.len]
      simp only [hys, hz, hylen] at H6
      have H6h := Lib.hid H6
      have HKp := Lib.hid hkp
      have x0 := HT5.out.blk.cell 0
      have x1 := HT5.out.blk.cell 1
      have x2 := HT5.out.blk.cell 2
      have x3 := HT5.out.blk.cell 3
      have x4 := HT5.out.blk.cell 4
      have x5 := HT5.out.blk.cell 5
      have x6 := HT5.out.blk.cell 6
      have x7 := HT5.out.blk.cell 7
      have x8 := HT5.out.blk.cell 8
      have x9 := HT5.out.blk.cell 9
      have x10 := HT5.out.blk.cell 10
      have x11 := HT5.out.blk.cell 11
      have x12 := HT5.out.blk.cell 12
      have x13 := HT5.out.blk.cell 13
      have x14 := HT5.out.blk.cell 14
      clear hb5 ho5 H5h H6 hkp hys hz hylen
      go_wp2_with fail
      refine H6h.out.mono ?_
      rintro e w6 ⟨A6, c6, rfl, ho6, hb6⟩
      clear x0 x1 x2 x3 x4 x5 x6 x7 x8 x9 x10 x11 x12 x13 x14
      have HA := Lib.hid (awake_any w6)
      have HT6 := Lib.hid (HT5.out.on hb6)
      have HM6 := Lib.hid (row_on HM5.out hb6)
      have HR6 := Lib.hid ho6.read
      clear hb6 ho6 H6h HT5 HM5 HT
      go_wp2_with fail
      refine HA.out.mono ?_
      rintro e w7 ⟨rfl, hb7⟩
      have HT7 := Lib.hid (HT6.out.on hb7)
      have HM7 := Lib.hid (row_on HM6.out hb7)
      have HR7 := Lib.hid (row_on HR6.out hb7)
      have hzp := HKp.out.pos
      have e2 : (k : Int) = (k : Int) := rfl
      clear hb7 HA HT6 HM6 HR6
      go_wp2_with fail
      go_loopw [10, 11] (fun s10 s11 wr => ∃ i : Nat, s11 = .int .i64 i ∧ s10 = .int .i64 (nsum (vs.take i) - nsum (ys.take i)) ∧ i ≤ k ∧ Hid (Below w7.heap.size w7 wr)) (fun _ s11 _ => k - (intOf s11).toNat)
      case atStart => exact ⟨0, rfl, rfl, by omega, Lib.hid (Below.refl _ _)⟩
      case round =>
        obtain ⟨i, rfl, rfl, hi, HW⟩ := hrel
        have ii : (0 : Int) ≤ (i : Int) := by omega
        by_cases hlt : i < k
        · obtain ⟨u, hu⟩ := HT7.out.row.get hlt
          obtain ⟨v, hv, hvl, hvn, hvo, hvm⟩ := HKp.out.each i u hu
          obtain ⟨g3, o3, rfl, hg3, _, hok3, v0, v1, v2⟩ := row_Unt HT7.out.urow hu
          obtain ⟨g6, o6, rfl, hg6, _, hok6, p0, p1, p2⟩ := row_Unt HR7.out hv
          have cv0 : ∀ W, Below w7.heap.size w7 W → W.cell? ⟨g3, o3 + i * 3, none⟩ = some (.int .i64 u.line) := fun W h => (h.cell (p := ⟨g3, _, none⟩) hg3).trans v0
          have cv1 : ∀ W, Below w7.heap.size w7 W → W.cell? ⟨g3, o3 + i * 3 + 1, none⟩ = some (.int .i64 u.net) := fun W h => (h.cell (p := ⟨g3, _, none⟩) hg3).trans v1
          have cv2 : ∀ W, Below w7.heap.size w7 W → W.cell? ⟨g3, o3 + i * 3 + 2, none⟩ = some (.bool u.opn) := fun W h => (h.cell (p := ⟨g3, _, none⟩) hg3).trans v2
          have cp0 : ∀ W, Below w7.heap.size w7 W → W.cell? ⟨g6, o6 + i * 3, none⟩ = some (.int .i64 v.line) := fun W h => (h.cell (p := ⟨g6, _, none⟩) hg6).trans p0
          have cp1 : ∀ W, Below w7.heap.size w7 W → W.cell? ⟨g6, o6 + i * 3 + 1, none⟩ = some (.int .i64 v.net) := fun W h => (h.cell (p := ⟨g6, _, none⟩) hg6).trans p1
          have cp2 : ∀ W, Below w7.heap.size w7 W → W.cell? ⟨g6, o6 + i * 3 + 2, none⟩ = some (.bool v.opn) := fun W h => (h.cell (p := ⟨g6, _, none⟩) hg6).trans p2
          have hbx := HT7.out.blk
          have ccl : ∀ W, Below w7.heap.size w7 W → W.cell? ⟨w.heap.size, 5, none⟩ = some (.bool q.closes) := fun W h => (h.cell (p := ⟨w.heap.size, _, none⟩) hbx.lt).trans (hbx.cell 5)
          have HIn := Lib.hid (fun W (hb : Below w7.heap.size w7 W) => in_any A5 j c5 ps (i : Int) _ W (row_on HM7.out hb) (by omega))
          have k1 : (i : Int) < (k : Int) := by omega
          have hnv := HVs.out.nets.part i
          have hnv2 := HVs.out.nets.part (i + 1)
          have hvt := HVs.out.total
          have hys2 : Nets ys := fun b x hx => by
            have hbk : b < vs.length := by rw [← HKp.out.len]; exact (List.getElem?_eq_some_iff.1 hx).1
            obtain ⟨y, hy, _, hy2, _⟩ := HKp.out.each b _ (List.getElem?_eq_getElem hbk)
            rw [hx] at hy
            injection hy with hy
            subst hy
            exact hy2.1
          have hny := hys2.part i
          have hny2 := hys2.part (i + 1)
          have hyt := HKp.out.sum
          rw [nsum_next hu] at hnv2
          rw [nsum_next hv] at hny2
          obtain ⟨Sv, hSv⟩ : ∃ z, nsum (vs.take i) = z := ⟨_, rfl⟩
          obtain ⟨Sy, hSy⟩ : ∃ z, nsum (ys.take i) = z := ⟨_, rfl⟩
          have hnext : nsum (vs.take (i + 1)) - nsum (ys.take (i + 1)) = Sv + u.net - (Sy + v.net) := by rw [nsum_next hu, nsum_next hv, hSv, hSy]
          rw [hSv] at hnv hnv2
          rw [hSy] at hny hny2
          have hpz := HKp.out.pos
          obtain ⟨D, hD⟩ : ∃ z, Sv - Sy = z := ⟨_, rfl⟩
          obtain ⟨D1, hD1⟩ : ∃ z, D + u.net = z := ⟨_, rfl⟩
          obtain ⟨D2, hD2⟩ : ∃ z, D1 - v.net = z := ⟨_, rfl⟩
          have wa1 : IntKind.i64.wrap (D + u.net) = D1 := by rw [hD1]; exact IntWalk.i64_in _ (by omega)
          have wa2 : wrap64 (D + u.net) = D1 := by rw [hD1]; exact IntWalk.wrap64_in _ (by omega)
          have wb1 : IntKind.i64.wrap (D1 - v.net) = D2 := by rw [hD2]; exact IntWalk.i64_in _ (by omega)
          have wb2 : wrap64 (D1 - v.net) = D2 := by rw [hD2]; exact IntWalk.wrap64_in _ (by omega)
          have HNx : Hid (nsum (vs.take (i + 1)) - nsum (ys.take (i + 1)) = D2) := Lib.hid (by rw [hnext]; omega)
          simp only [hSv, hSy, hD]
          have n1 : ¬ v.net < 0 := by omega
          have n2 : ¬ u.net < v.net := by omega
          have n3 : decide (v.net < 0) = false := decide_eq_false n1
          have n4 : decide (u.net < v.net) = false := decide_eq_false n2
          have e3 : (v.line == u.line) = true := by rw [hvl]; exact beq_self_eq_true _
          have e4 : (v.line != u.line) = false := by rw [bne, e3]; rfl
          have HW2 := HW.out
          clear hu hv hok3 hok6 v0 v1 v2 p0 p1 p2 hg3 hg6 hbx hnv hnv2 hvt hys2 hny hny2 hyt hSv hSy hnext hpz hD hD1 hD2 hvn
          cases hmn : inI ps (i : Int) with
          | false =>
            have hvu := hvo hmn
            simp only [hmn] at HIn
            clear hvo hvm hmn
            subst hvu
            obtain ⟨bo, hbo⟩ : ∃ b, v.opn = b := ⟨_, rfl⟩
            simp only [hbo] at cv2 cp2
            clear hbo
            cases bo with
            | false =>
              as_aux_lemma =>
                go_wp2_with fail
                refine wp_region_held_drew (S := fun u => Below w7.heap.size w7 u) (by kernel_rfl) (HW2.drew) (fun hS0 => ?_)
                refine pkT 0 46 hS0 ?_
                try simp only [Act.put, pkA, pkB, pkC]
                refine pkT 1 47 hS0 ?_
                try simp only [Act.put, pkA, pkB, pkC]
                refine wpAnyH_ready (rs := [2]) (by kernel_rfl) (by simp) ?_
                refine AllReadyH.cons (o := ⟨some 48, _, _, _, _, _⟩) rfl (fun K hK => ?_) AllReadyH.nil
                go_simp
                refine (HIn.out _ hS0).mono ?_
                rintro e wa ⟨rfl, hwa⟩
                obtain rfl := hwa
                go_wp2_with fail
                refine hK.out _ _ (hS0) (fun hS1 => ?_)
                clear hK K
                try simp only [Act.put, pkA, pkB, pkC]
                refine pkT 3 49 hS1 ?_
                try simp only [Act.put, pkA, pkB, pkC]
                refine pkT 4 50 hS1 ?_
                try simp only [Act.put, pkA, pkB, pkC]
                refine pkT 5 51 hS1 ?_
                try simp only [Act.put, pkA, pkB, pkC]
                refine pkT 6 52 hS1 ?_
                try simp only [Act.put, pkA, pkB, pkC]
                refine pkT 7 53 hS1 ?_
                try simp only [Act.put, pkA, pkB, pkC]
                refine pkT 8 54 hS1 ?_
                try simp only [Act.put, pkA, pkB, pkC]
                refine pkT 9 55 hS1 ?_
                try simp only [Act.put, pkA, pkB, pkC]
                refine pkT 10 56 hS1 ?_
                try simp only [Act.put, pkA, pkB, pkC]
                refine pkT 11 57 hS1 ?_
                try simp only [Act.put, pkA, pkB, pkC]
                refine pkT 12 58 hS1 ?_
                try simp only [Act.put, pkA, pkB, pkC]
                refine pkT 13 59 hS1 ?_
                try simp only [Act.put, pkA, pkB, pkC]
                refine pkT 14 60 hS1 ?_
                try simp only [Act.put, pkA, pkB, pkC]
                refine pkT 15 61 hS1 ?_
                try simp only [Act.put, pkA, pkB, pkC]
                refine pkT 16 62 hS1 ?_
                try simp only [Act.put, pkA, pkB, pkC]
                refine pkT 17 63 hS1 ?_
                try simp only [Act.put, pkA, pkB, pkC]
                refine pkT 18 64 hS1 ?_
                try simp only [Act.put, pkA, pkB, pkC]
                refine pkT 19 65 hS1 ?_
                try simp only [Act.put, pkA, pkB, pkC]
                refine pkT 20 66 hS1 ?_
                try simp only [Act.put, pkA, pkB, pkC]
                refine pkT 21 67 hS1 ?_
                try simp only [Act.put, pkA, pkB, pkC]
                refine pkT 22 68 hS1 ?_
                try simp only [Act.put, pkA, pkB, pkC]
                refine pkT 23 69 hS1 ?_
                try simp only [Act.put, pkA, pkB, pkC]
                refine pkT 24 70 hS1 ?_
                try simp only [Act.put, pkA, pkB, pkC]
                refine pkT 25 71 hS1 ?_
                try simp only [Act.put, pkA, pkB, pkC]
                refine pkT 26 72 hS1 ?_
                try simp only [Act.put, pkA, pkB, pkC]
                refine pkT 27 73 hS1 ?_
                try simp only [Act.put, pkA, pkB, pkC]
                refine pkT 28 74 hS1 ?_
                try simp only [Act.put, pkA, pkB, pkC]
                refine pkT 29 75 hS1 ?_
                try simp only [Act.put, pkA, pkB, pkC]
                refine pkT 30 76 hS1 ?_
                try simp only [Act.put, pkA, pkB, pkC]
                refine pkT 31 77 hS1 ?_
                try simp only [Act.put, pkA, pkB, pkC]
                refine pkT 32 78 hS1 ?_
                try simp only [Act.put, pkA, pkB, pkC]
                refine pkT 33 79 hS1 ?_
                try simp only [Act.put, pkA, pkB, pkC]
                refine pkT 34 80 hS1 ?_
                try simp only [Act.put, pkA, pkB, pkC]
                refine pkT 35 81 hS1 ?_
                try simp only [Act.put, pkA, pkB, pkC]
                refine pkT 36 82 hS1 ?_
                try simp only [Act.put, pkA, pkB, pkC]
                refine pkT 37 83 hS1 ?_
                try simp only [Act.put, pkA, pkB, pkC]
                refine pkT 38 84 hS1 ?_
                try simp only [Act.put, pkA, pkB, pkC]
                refine pkT 39 85 hS1 ?_
                try simp only [Act.put, pkA, pkB, pkC]
                refine pkT 40 86 hS1 ?_
                try simp only [Act.put, pkA, pkB, pkC]
                refine pkT 41 87 hS1 ?_
                try simp only [Act.put, pkA, pkB, pkC]
                refine pkT 42 88 hS1 ?_
                try simp only [Act.put, pkA, pkB, pkC]
                refine pkT 43 89 hS1 ?_
                try simp only [Act.put, pkA, pkB, pkC]
                refine pkT 44 90 hS1 ?_
                try simp only [Act.put, pkA, pkB, pkC]
                refine pkT 45 91 hS1 ?_
                try simp only [Act.put, pkA, pkB, pkC]
                refine pkT 46 92 hS1 ?_
                try simp only [Act.put, pkA, pkB, pkC]
                refine pkT 47 93 hS1 ?_
                try simp only [Act.put, pkA, pkB, pkC]
                refine pkT 48 94 hS1 ?_
                try simp only [Act.put, pkA, pkB, pkC]
                refine pkT 49 95 hS1 ?_
                try simp only [Act.put, pkA, pkB, pkC]
                refine pkT 50 96 hS1 ?_
                try simp only [Act.put, pkA, pkB, pkC]
                refine pkT 51 97 hS1 ?_
                try simp only [Act.put, pkA, pkB, pkC]
                refine pkT 52 98 hS1 ?_
                try simp only [Act.put, pkA, pkB, pkC]
                refine pkT 53 99 hS1 ?_
                try simp only [Act.put, pkA, pkB, pkC]
                refine pkT 54 100 hS1 ?_
                try simp only [Act.put, pkA, pkB, pkC]
                refine pkT 55 101 hS1 ?_
                try simp only [Act.put, pkA, pkB, pkC]
                refine pkU 56 102 hS1 ?_
                try simp only [Act.put, pkA, pkB, pkC]
                refine pkU 57 103 hS1 ?_
                try simp only [Act.put, pkA, pkB, pkC]
                refine pkU 58 104 hS1 ?_
                try simp only [Act.put, pkA, pkB, pkC]
                refine pkU 59 105 hS1 ?_
                try simp only [Act.put, pkA, pkB, pkC]
                refine pkU 60 106 hS1 ?_
                try simp only [Act.put, pkA, pkB, pkC]
                refine pkU 61 107 hS1 ?_
                try simp only [Act.put, pkA, pkB, pkC]
                refine pkT 62 108 hS1 ?_
                try simp only [Act.put, pkA, pkB, pkC]
                refine pkT 63 109 hS1 ?_
                try simp only [Act.put, pkA, pkB, pkC]
                refine wpAnyH_done (by kernel_rfl) ?_ _
                have HWx := Lib.hid hS1
                clear hS0
                go_wp2_with fail
                refine wp_region_held_drew (S := fun u => Below w7.heap.size w7 u) (by kernel_rfl) (HWx.out.drew) (fun hS0 => ?_)
                refine pkT 0 110 hS0 ?_
                try simp only [Act.put, pkA, pkB, pkC]
                refine pkT 1 111 hS0 ?_
                try simp only [Act.put, pkA, pkB, pkC]
                refine wpAnyH_ready (rs := [2]) (by kernel_rfl) (by simp) ?_
                refine AllReadyH.cons (o := ⟨some 112, _, _, _, _, _⟩) rfl (fun K hK => ?_) AllReadyH.nil
                go_simp
                refine (HIn.out _ hS0).mono ?_
                rintro e wa ⟨rfl, hwa⟩
                obtain rfl := hwa
                go_wp2_with fail
                refine hK.out _ _ (hS0) (fun hS1 => ?_)
                clear hK K
                try simp only [Act.put, pkA, pkB, pkC]
                refine pkT 3 113 hS1 ?_
                try simp only [Act.put, pkA, pkB, pkC]
                refine pkU 4 114 hS1 ?_
                try simp only [Act.put, pkA, pkB, pkC]
                refine pkU 5 115 hS1 ?_
                try simp only [Act.put, pkA, pkB, pkC]
                refine pkU 6 116 hS1 ?_
                try simp only [Act.put, pkA, pkB, pkC]
                refine pkU 7 117 hS1 ?_
                try simp only [Act.put, pkA, pkB, pkC]
                refine pkU 8 118 hS1 ?_
                try simp only [Act.put, pkA, pkB, pkC]
                refine pkU 9 119 hS1 ?_
                try simp only [Act.put, pkA, pkB, pkC]
                refine pkU 10 120 hS1 ?_
                try simp only [Act.put, pkA, pkB, pkC]
                refine pkU 11 121 hS1 ?_
                try simp only [Act.put, pkA, pkB, pkC]
                refine pkU 12 122 hS1 ?_
                try simp only [Act.put, pkA, pkB, pkC]
                refine pkU 13 123 hS1 ?_
                try simp only [Act.put, pkA, pkB, pkC]
                refine pkU 14 124 hS1 ?_
                try simp only [Act.put, pkA, pkB, pkC]
                refine pkU 15 125 hS1 ?_
                try simp only [Act.put, pkA, pkB, pkC]
                refine pkT 16 126 hS1 ?_
                try simp only [Act.put, pkA, pkB, pkC]
                refine wpAnyH_done (by kernel_rfl) ?_ _
                have HWy := Lib.hid hS1
                clear hS0
                go_wp2_with fail
                refine wp_region_held_drew (S := fun u => Below w7.heap.size w7 u) (by kernel_rfl) (HWy.out.drew) (fun hS0 => ?_)
                refine pkT 0 127 hS0 ?_
                try simp only [Act.put, pkA, pkB, pkC]
                refine pkT 1 128 hS0 ?_
                try simp only [Act.put, pkA, pkB, pkC]
                refine pkT 2 129 hS0 ?_
                try simp only [Act.put, pkA, pkB, pkC]
                refine pkT 3 130 hS0 ?_
                try simp only [Act.put, pkA, pkB, pkC]
                refine pkT 4 131 hS0 ?_
                try simp only [Act.put, pkA, pkB, pkC]
                refine pkT 5 132 hS0 ?_
                try simp only [Act.put, pkA, pkB, pkC]
                refine pkT 6 133 hS0 ?_
                try simp only [Act.put, pkA, pkB, pkC]
                refine pkT 7 134 hS0 ?_
                try simp only [Act.put, pkA, pkB, pkC]
                refine pkT 8 135 hS0 ?_
                try simp only [Act.put, pkA, pkB, pkC]
                refine pkT 9 136 hS0 ?_
                try simp only [Act.put, pkA, pkB, pkC]
                refine pkT 10 137 hS0 ?_
                try simp only [Act.put, pkA, pkB, pkC]
                refine pkT 11 138 hS0 ?_
                try simp only [Act.put, pkA, pkB, pkC]
                refine pkT 12 139 hS0 ?_
                try simp only [Act.put, pkA, pkB, pkC]
                refine pkT 13 10 hS0 ?_
                try simp only [Act.put, pkA, pkB, pkC]
                refine wpAnyH_done (by kernel_rfl) ?_ _
                have HWz := Lib.hid hS0
                clear hS0
                go_wp2_with fail
                go_roundw
                case rel => exact ⟨i + 1, by go_num, by rw [HNx.out], by omega, HWz⟩
                case measure => simp [intOf]; omega
            | true =>
              as_aux_lemma =>
                go_wp2_with fail
                refine wp_region_held_drew (S := fun u => Below w7.heap.size w7 u) (by kernel_rfl) (HW2.drew) (fun hS0 => ?_)
                refine pkT 0 46 hS0 ?_
                try simp only [Act.put, pkA, pkB, pkC]
                refine pkT 1 47 hS0 ?_
                try simp only [Act.put, pkA, pkB, pkC]
                refine wpAnyH_ready (rs := [2]) (by kernel_rfl) (by simp) ?_
                refine AllReadyH.cons (o := ⟨some 48, _, _, _, _, _⟩) rfl (fun K hK => ?_) AllReadyH.nil
                go_simp
                refine (HIn.out _ hS0).mono ?_
                rintro e wa ⟨rfl, hwa⟩
                obtain rfl := hwa
                go_wp2_with fail
                refine hK.out _ _ (hS0) (fun hS1 => ?_)
                clear hK K
                try simp only [Act.put, pkA, pkB, pkC]
                refine pkT 3 49 hS1 ?_
                try simp only [Act.put, pkA, pkB, pkC]
                refine pkT 4 50 hS1 ?_
                try simp only [Act.put, pkA, pkB, pkC]
                refine pkT 5 51 hS1 ?_
                try simp only [Act.put, pkA, pkB, pkC]
                refine pkT 6 52 hS1 ?_
                try simp only [Act.put, pkA, pkB, pkC]
                refine pkT 7 53 hS1 ?_
                try simp only [Act.put, pkA, pkB, pkC]
                refine pkT 8 54 hS1 ?_
                try simp only [Act.put, pkA, pkB, pkC]
                refine pkT 9 55 hS1 ?_
                try simp only [Act.put, pkA, pkB, pkC]
                refine pkT 10 56 hS1 ?_
                try simp only [Act.put, pkA, pkB, pkC]
                refine pkT 11 57 hS1 ?_
                try simp only [Act.put, pkA, pkB, pkC]
                refine pkT 12 58 hS1 ?_
                try simp only [Act.put, pkA, pkB, pkC]
                refine pkT 13 59 hS1 ?_
                try simp only [Act.put, pkA, pkB, pkC]
                refine pkT 14 60 hS1 ?_
                try simp only [Act.put, pkA, pkB, pkC]
                refine pkT 15 61 hS1 ?_
                try simp only [Act.put, pkA, pkB, pkC]
                refine pkT 16 62 hS1 ?_
                try simp only [Act.put, pkA, pkB, pkC]
                refine pkT 17 63 hS1 ?_
                try simp only [Act.put, pkA, pkB, pkC]
                refine pkT 18 64 hS1 ?_
                try simp only [Act.put, pkA, pkB, pkC]
                refine pkT 19 65 hS1 ?_
                try simp only [Act.put, pkA, pkB, pkC]
                refine pkT 20 66 hS1 ?_
                try simp only [Act.put, pkA, pkB, pkC]
                refine pkT 21 67 hS1 ?_
                try simp only [Act.put, pkA, pkB, pkC]
                refine pkT 22 68 hS1 ?_
                try simp only [Act.put, pkA, pkB, pkC]
                refine pkT 23 69 hS1 ?_
                try simp only [Act.put, pkA, pkB, pkC]
                refine pkT 24 70 hS1 ?_
                try simp only [Act.put, pkA, pkB, pkC]
                refine pkT 25 71 hS1 ?_
                try simp only [Act.put, pkA, pkB, pkC]
                refine pkT 26 72 hS1 ?_
                try simp only [Act.put, pkA, pkB, pkC]
                refine pkT 27 73 hS1 ?_
                try simp only [Act.put, pkA, pkB, pkC]
                refine pkT 28 74 hS1 ?_
                try simp only [Act.put, pkA, pkB, pkC]
                refine pkT 29 75 hS1 ?_
                try simp only [Act.put, pkA, pkB, pkC]
                refine pkT 30 76 hS1 ?_
                try simp only [Act.put, pkA, pkB, pkC]
                refine pkT 31 77 hS1 ?_
                try simp only [Act.put, pkA, pkB, pkC]
                refine pkT 32 78 hS1 ?_
                try simp only [Act.put, pkA, pkB, pkC]
                refine pkT 33 79 hS1 ?_
                try simp only [Act.put, pkA, pkB, pkC]
                refine pkT 34 80 hS1 ?_
                try simp only [Act.put, pkA, pkB, pkC]
                refine pkT 35 81 hS1 ?_
                try simp only [Act.put, pkA, pkB, pkC]
                refine pkT 36 82 hS1 ?_
                try simp only [Act.put, pkA, pkB, pkC]
                refine pkT 37 83 hS1 ?_
                try simp only [Act.put, pkA, pkB, pkC]
                refine pkT 38 84 hS1 ?_
                try simp only [Act.put, pkA, pkB, pkC]
                refine pkT 39 85 hS1 ?_
                try simp only [Act.put, pkA, pkB, pkC]
                refine pkT 40 86 hS1 ?_
                try simp only [Act.put, pkA, pkB, pkC]
                refine pkT 41 87 hS1 ?_
                try simp only [Act.put, pkA, pkB, pkC]
                refine pkT 42 88 hS1 ?_
                try simp only [Act.put, pkA, pkB, pkC]
                refine pkT 43 89 hS1 ?_
                try simp only [Act.put, pkA, pkB, pkC]
                refine pkT 44 90 hS1 ?_
                try simp only [Act.put, pkA, pkB, pkC]
                refine pkT 45 91 hS1 ?_
                try simp only [Act.put, pkA, pkB, pkC]
                refine pkT 46 92 hS1 ?_
                try simp only [Act.put, pkA, pkB, pkC]
                refine pkT 47 93 hS1 ?_
                try simp only [Act.put, pkA, pkB, pkC]
                refine pkT 48 94 hS1 ?_
                try simp only [Act.put, pkA, pkB, pkC]
                refine pkT 49 95 hS1 ?_
                try simp only [Act.put, pkA, pkB, pkC]
                refine pkT 50 96 hS1 ?_
                try simp only [Act.put, pkA, pkB, pkC]
                refine pkT 51 97 hS1 ?_
                try simp only [Act.put, pkA, pkB, pkC]
                refine pkT 52 98 hS1 ?_
                try simp only [Act.put, pkA, pkB, pkC]
                refine pkT 53 99 hS1 ?_
                try simp only [Act.put, pkA, pkB, pkC]
                refine pkT 54 100 hS1 ?_
                try simp only [Act.put, pkA, pkB, pkC]
                refine pkT 55 101 hS1 ?_
                try simp only [Act.put, pkA, pkB, pkC]
                refine pkT 56 102 hS1 ?_
                try simp only [Act.put, pkA, pkB, pkC]
                refine pkT 57 103 hS1 ?_
                try simp only [Act.put, pkA, pkB, pkC]
                refine pkT 58 104 hS1 ?_
                try simp only [Act.put, pkA, pkB, pkC]
                refine pkT 59 105 hS1 ?_
                try simp only [Act.put, pkA, pkB, pkC]
                refine pkT 60 106 hS1 ?_
                try simp only [Act.put, pkA, pkB, pkC]
                refine pkT 61 107 hS1 ?_
                try simp only [Act.put, pkA, pkB, pkC]
                refine pkT 62 108 hS1 ?_
                try simp only [Act.put, pkA, pkB, pkC]
                refine pkT 63 109 hS1 ?_
                try simp only [Act.put, pkA, pkB, pkC]
                refine wpAnyH_done (by kernel_rfl) ?_ _
                have HWx := Lib.hid hS1
                clear hS0
                go_wp2_with fail
                refine wp_region_held_drew (S := fun u => Below w7.heap.size w7 u) (by kernel_rfl) (HWx.out.drew) (fun hS0 => ?_)
                refine pkT 0 110 hS0 ?_
                try simp only [Act.put, pkA, pkB, pkC]
                refine pkT 1 111 hS0 ?_
                try simp only [Act.put, pkA, pkB, pkC]
                refine wpAnyH_ready (rs := [2]) (by kernel_rfl) (by simp) ?_
                refine AllReadyH.cons (o := ⟨some 112, _, _, _, _, _⟩) rfl (fun K hK => ?_) AllReadyH.nil
                go_simp
                refine (HIn.out _ hS0).mono ?_
                rintro e wa ⟨rfl, hwa⟩
                obtain rfl := hwa
                go_wp2_with fail
                refine hK.out _ _ (hS0) (fun hS1 => ?_)
                clear hK K
                try simp only [Act.put, pkA, pkB, pkC]
                refine pkT 3 113 hS1 ?_
                try simp only [Act.put, pkA, pkB, pkC]
                refine pkU 4 114 hS1 ?_
                try simp only [Act.put, pkA, pkB, pkC]
                refine pkU 5 115 hS1 ?_
                try simp only [Act.put, pkA, pkB, pkC]
                refine pkU 6 116 hS1 ?_
                try simp only [Act.put, pkA, pkB, pkC]
                refine pkU 7 117 hS1 ?_
                try simp only [Act.put, pkA, pkB, pkC]
                refine pkU 8 118 hS1 ?_
                try simp only [Act.put, pkA, pkB, pkC]
                refine pkU 9 119 hS1 ?_
                try simp only [Act.put, pkA, pkB, pkC]
                refine pkU 10 120 hS1 ?_
                try simp only [Act.put, pkA, pkB, pkC]
                refine pkU 11 121 hS1 ?_
                try simp only [Act.put, pkA, pkB, pkC]
                refine pkU 12 122 hS1 ?_
                try simp only [Act.put, pkA, pkB, pkC]
                refine pkU 13 123 hS1 ?_
                try simp only [Act.put, pkA, pkB, pkC]
                refine pkU 14 124 hS1 ?_
                try simp only [Act.put, pkA, pkB, pkC]
                refine pkU 15 125 hS1 ?_
                try simp only [Act.put, pkA, pkB, pkC]
                refine pkT 16 126 hS1 ?_
                try simp only [Act.put, pkA, pkB, pkC]
                refine wpAnyH_done (by kernel_rfl) ?_ _
                have HWy := Lib.hid hS1
                clear hS0
                go_wp2_with fail
                refine wp_region_held_drew (S := fun u => Below w7.heap.size w7 u) (by kernel_rfl) (HWy.out.drew) (fun hS0 => ?_)
                refine pkT 0 127 hS0 ?_
                try simp only [Act.put, pkA, pkB, pkC]
                refine pkT 1 128 hS0 ?_
                try simp only [Act.put, pkA, pkB, pkC]
                refine pkT 2 129 hS0 ?_
                try simp only [Act.put, pkA, pkB, pkC]
                refine pkT 3 130 hS0 ?_
                try simp only [Act.put, pkA, pkB, pkC]
                refine pkT 4 131 hS0 ?_
                try simp only [Act.put, pkA, pkB, pkC]
                refine pkT 5 132 hS0 ?_
                try simp only [Act.put, pkA, pkB, pkC]
                refine pkT 6 133 hS0 ?_
                try simp only [Act.put, pkA, pkB, pkC]
                refine pkT 7 134 hS0 ?_
                try simp only [Act.put, pkA, pkB, pkC]
                refine pkT 8 135 hS0 ?_
                try simp only [Act.put, pkA, pkB, pkC]
                refine pkT 9 136 hS0 ?_
                try simp only [Act.put, pkA, pkB, pkC]
                refine pkT 10 137 hS0 ?_
                try simp only [Act.put, pkA, pkB, pkC]
                refine pkT 11 138 hS0 ?_
                try simp only [Act.put, pkA, pkB, pkC]
                refine pkT 12 139 hS0 ?_
                try simp only [Act.put, pkA, pkB, pkC]
                refine pkT 13 10 hS0 ?_
                try simp only [Act.put, pkA, pkB, pkC]
                refine wpAnyH_done (by kernel_rfl) ?_ _
                have HWz := Lib.hid hS0
                clear hS0
                go_wp2_with fail
                go_roundw
                case rel => exact ⟨i + 1, by go_num, by rw [HNx.out], by omega, HWz⟩
                case measure => simp [intOf]; omega
          | true =>
            obtain ⟨huo, hvp⟩ := hvm hmn
            simp only [hmn] at HIn
            rw [huo] at cv2
            clear hvo hvm hmn
            obtain ⟨cl, hcl⟩ : ∃ b, q.closes = b := ⟨_, rfl⟩
            simp only [hcl] at ccl hvp
            clear hcl
            simp only [hvp] at cp2
            clear hvp huo
            cases cl with
            | false =>
              simp only [Bool.false_and, Bool.not_false] at cp2
              as_aux_lemma =>
                go_wp2_with fail
                refine wp_region_held_drew (S := fun u => Below w7.heap.size w7 u) (by kernel_rfl) (HW2.drew) (fun hS0 => ?_)
                refine pkT 0 46 hS0 ?_
                try simp only [Act.put, pkA, pkB, pkC]
                refine pkT 1 47 hS0 ?_
                try simp only [Act.put, pkA, pkB, pkC]
                refine wpAnyH_ready (rs := [2]) (by kernel_rfl) (by simp) ?_
                refine AllReadyH.cons (o := ⟨some 48, _, _, _, _, _⟩) rfl (fun K hK => ?_) AllReadyH.nil
                go_simp
                refine (HIn.out _ hS0).mono ?_
                rintro e wa ⟨rfl, hwa⟩
                obtain rfl := hwa
                go_wp2_with fail
                refine hK.out _ _ (hS0) (fun hS1 => ?_)
                clear hK K
                try simp only [Act.put, pkA, pkB, pkC]
                refine pkT 3 49 hS1 ?_
                try simp only [Act.put, pkA, pkB, pkC]
                refine pkT 4 50 hS1 ?_
                try simp only [Act.put, pkA, pkB, pkC]
                refine pkU 5 51 hS1 ?_
                try simp only [Act.put, pkA, pkB, pkC]
                refine pkU 6 52 hS1 ?_
                try simp only [Act.put, pkA, pkB, pkC]
                refine pkU 7 53 hS1 ?_
                try simp only [Act.put, pkA, pkB, pkC]
                refine pkU 8 54 hS1 ?_
                try simp only [Act.put, pkA, pkB, pkC]
                refine pkU 9 55 hS1 ?_
                try simp only [Act.put, pkA, pkB, pkC]
                refine pkU 10 56 hS1 ?_
                try simp only [Act.put, pkA, pkB, pkC]
                refine pkU 11 57 hS1 ?_
                try simp only [Act.put, pkA, pkB, pkC]
                refine pkU 12 58 hS1 ?_
                try simp only [Act.put, pkA, pkB, pkC]
                refine pkU 13 59 hS1 ?_
                try simp only [Act.put, pkA, pkB, pkC]
                refine pkT 14 60 hS1 ?_
                try simp only [Act.put, pkA, pkB, pkC]
                refine pkT 15 61 hS1 ?_
                try simp only [Act.put, pkA, pkB, pkC]
                refine pkT 16 62 hS1 ?_
                try simp only [Act.put, pkA, pkB, pkC]
                refine pkT 17 63 hS1 ?_
                try simp only [Act.put, pkA, pkB, pkC]
                refine pkT 18 64 hS1 ?_
                try simp only [Act.put, pkA, pkB, pkC]
                refine pkT 19 65 hS1 ?_
                try simp only [Act.put, pkA, pkB, pkC]
                refine pkT 20 66 hS1 ?_
                try simp only [Act.put, pkA, pkB, pkC]
                refine pkT 21 67 hS1 ?_
                try simp only [Act.put, pkA, pkB, pkC]
                refine pkT 22 68 hS1 ?_
                try simp only [Act.put, pkA, pkB, pkC]
                refine pkT 23 69 hS1 ?_
                try simp only [Act.put, pkA, pkB, pkC]
                refine pkT 24 70 hS1 ?_
                try simp only [Act.put, pkA, pkB, pkC]
                refine pkT 25 71 hS1 ?_
                try simp only [Act.put, pkA, pkB, pkC]
                refine pkT 26 72 hS1 ?_
                try simp only [Act.put, pkA, pkB, pkC]
                refine pkT 27 73 hS1 ?_
                try simp only [Act.put, pkA, pkB, pkC]
                refine pkT 28 74 hS1 ?_
                try simp only [Act.put, pkA, pkB, pkC]
                refine pkT 29 75 hS1 ?_
                try simp only [Act.put, pkA, pkB, pkC]
                refine pkT 30 76 hS1 ?_
                try simp only [Act.put, pkA, pkB, pkC]
                refine pkT 31 77 hS1 ?_
                try simp only [Act.put, pkA, pkB, pkC]
                refine pkT 32 78 hS1 ?_
                try simp only [Act.put, pkA, pkB, pkC]
                refine pkT 33 79 hS1 ?_
                try simp only [Act.put, pkA, pkB, pkC]
                refine pkT 34 80 hS1 ?_
                try simp only [Act.put, pkA, pkB, pkC]
                refine pkT 35 81 hS1 ?_
                try simp only [Act.put, pkA, pkB, pkC]
                refine pkT 36 82 hS1 ?_
                try simp only [Act.put, pkA, pkB, pkC]
                refine pkT 37 83 hS1 ?_
                try simp only [Act.put, pkA, pkB, pkC]
                refine pkT 38 84 hS1 ?_
                try simp only [Act.put, pkA, pkB, pkC]
                refine pkT 39 85 hS1 ?_
                try simp only [Act.put, pkA, pkB, pkC]
                refine pkT 40 86 hS1 ?_
                try simp only [Act.put, pkA, pkB, pkC]
                refine pkT 41 87 hS1 ?_
                try simp only [Act.put, pkA, pkB, pkC]
                refine pkT 42 88 hS1 ?_
                try simp only [Act.put, pkA, pkB, pkC]
                refine pkT 43 89 hS1 ?_
                try simp only [Act.put, pkA, pkB, pkC]
                refine pkT 44 90 hS1 ?_
                try simp only [Act.put, pkA, pkB, pkC]
                refine pkT 45 91 hS1 ?_
                try simp only [Act.put, pkA, pkB, pkC]
                refine pkT 46 92 hS1 ?_
                try simp only [Act.put, pkA, pkB, pkC]
                refine pkT 47 93 hS1 ?_
                try simp only [Act.put, pkA, pkB, pkC]
                refine pkT 48 94 hS1 ?_
                try simp only [Act.put, pkA, pkB, pkC]
                refine pkT 49 95 hS1 ?_
                try simp only [Act.put, pkA, pkB, pkC]
                refine pkT 50 96 hS1 ?_
                try simp only [Act.put, pkA, pkB, pkC]
                refine pkT 51 97 hS1 ?_
                try simp only [Act.put, pkA, pkB, pkC]
                refine pkT 52 98 hS1 ?_
                try simp only [Act.put, pkA, pkB, pkC]
                refine pkT 53 99 hS1 ?_
                try simp only [Act.put, pkA, pkB, pkC]
                refine pkT 54 100 hS1 ?_
                try simp only [Act.put, pkA, pkB, pkC]
                refine pkT 55 101 hS1 ?_
                try simp only [Act.put, pkA, pkB, pkC]
                refine pkT 56 102 hS1 ?_
                try simp only [Act.put, pkA, pkB, pkC]
                refine pkT 57 103 hS1 ?_
                try simp only [Act.put, pkA, pkB, pkC]
                refine pkT 58 104 hS1 ?_
                try simp only [Act.put, pkA, pkB, pkC]
                refine pkT 59 105 hS1 ?_
                try simp only [Act.put, pkA, pkB, pkC]
                refine pkT 60 106 hS1 ?_
                try simp only [Act.put, pkA, pkB, pkC]
                refine pkT 61 107 hS1 ?_
                try simp only [Act.put, pkA, pkB, pkC]
                refine pkT 62 108 hS1 ?_
                try simp only [Act.put, pkA, pkB, pkC]
                refine pkT 63 109 hS1 ?_
                try simp only [Act.put, pkA, pkB, pkC]
                refine wpAnyH_done (by kernel_rfl) ?_ _
                have HWx := Lib.hid hS1
                clear hS0
                go_wp2_with fail
                refine wp_region_held_drew (S := fun u => Below w7.heap.size w7 u) (by kernel_rfl) (HWx.out.drew) (fun hS0 => ?_)
                refine pkT 0 110 hS0 ?_
                try simp only [Act.put, pkA, pkB, pkC]
                refine pkT 1 111 hS0 ?_
                try simp only [Act.put, pkA, pkB, pkC]
                refine wpAnyH_ready (rs := [2]) (by kernel_rfl) (by simp) ?_
                refine AllReadyH.cons (o := ⟨some 112, _, _, _, _, _⟩) rfl (fun K hK => ?_) AllReadyH.nil
                go_simp
                refine (HIn.out _ hS0).mono ?_
                rintro e wa ⟨rfl, hwa⟩
                obtain rfl := hwa
                go_wp2_with fail
                refine hK.out _ _ (hS0) (fun hS1 => ?_)
                clear hK K
                try simp only [Act.put, pkA, pkB, pkC]
                refine pkT 3 113 hS1 ?_
                try simp only [Act.put, pkA, pkB, pkC]
                refine pkT 4 114 hS1 ?_
                try simp only [Act.put, pkA, pkB, pkC]
                refine pkT 5 115 hS1 ?_
                try simp only [Act.put, pkA, pkB, pkC]
                refine pkT 6 116 hS1 ?_
                try simp only [Act.put, pkA, pkB, pkC]
                refine pkT 7 117 hS1 ?_
                try simp only [Act.put, pkA, pkB, pkC]
                refine pkT 8 118 hS1 ?_
                try simp only [Act.put, pkA, pkB, pkC]
                refine pkT 9 119 hS1 ?_
                try simp only [Act.put, pkA, pkB, pkC]
                refine pkT 10 120 hS1 ?_
                try simp only [Act.put, pkA, pkB, pkC]
                refine pkT 11 121 hS1 ?_
                try simp only [Act.put, pkA, pkB, pkC]
                refine pkU 12 122 hS1 ?_
                try simp only [Act.put, pkA, pkB, pkC]
                refine pkU 13 123 hS1 ?_
                try simp only [Act.put, pkA, pkB, pkC]
                refine pkT 14 124 hS1 ?_
                try simp only [Act.put, pkA, pkB, pkC]
                refine pkT 15 125 hS1 ?_
                try simp only [Act.put, pkA, pkB, pkC]
                refine pkT 16 126 hS1 ?_
                try simp only [Act.put, pkA, pkB, pkC]
                refine wpAnyH_done (by kernel_rfl) ?_ _
                have HWy := Lib.hid hS1
                clear hS0
                go_wp2_with fail
                refine wp_region_held_drew (S := fun u => Below w7.heap.size w7 u) (by kernel_rfl) (HWy.out.drew) (fun hS0 => ?_)
                refine pkT 0 127 hS0 ?_
                try simp only [Act.put, pkA, pkB, pkC]
                refine pkT 1 128 hS0 ?_
                try simp only [Act.put, pkA, pkB, pkC]
                refine pkT 2 129 hS0 ?_
                try simp only [Act.put, pkA, pkB, pkC]
                refine pkT 3 130 hS0 ?_
                try simp only [Act.put, pkA, pkB, pkC]
                refine pkT 4 131 hS0 ?_
                try simp only [Act.put, pkA, pkB, pkC]
                refine pkT 5 132 hS0 ?_
                try simp only [Act.put, pkA, pkB, pkC]
                refine pkT 6 133 hS0 ?_
                try simp only [Act.put, pkA, pkB, pkC]
                refine pkT 7 134 hS0 ?_
                try simp only [Act.put, pkA, pkB, pkC]
                refine pkT 8 135 hS0 ?_
                try simp only [Act.put, pkA, pkB, pkC]
                refine pkT 9 136 hS0 ?_
                try simp only [Act.put, pkA, pkB, pkC]
                refine pkT 10 137 hS0 ?_
                try simp only [Act.put, pkA, pkB, pkC]
                refine pkT 11 138 hS0 ?_
                try simp only [Act.put, pkA, pkB, pkC]
                refine pkT 12 139 hS0 ?_
                try simp only [Act.put, pkA, pkB, pkC]
                refine pkT 13 10 hS0 ?_
                try simp only [Act.put, pkA, pkB, pkC]
                refine wpAnyH_done (by kernel_rfl) ?_ _
                have HWz := Lib.hid hS0
                clear hS0
                go_wp2_with fail
                go_roundw
                case rel => exact ⟨i + 1, by go_num, by rw [HNx.out], by omega, HWz⟩
                case measure => simp [intOf]; omega
            | true =>
              by_cases hz0 : 0 < z
              · have hd : decide (0 < z) = true := decide_eq_true hz0
                simp only [hd, Bool.true_and, Bool.not_true] at cp2
                as_aux_lemma =>
                  go_wp2_with fail
                  refine wp_region_held_drew (S := fun u => Below w7.heap.size w7 u) (by kernel_rfl) (HW2.drew) (fun hS0 => ?_)
                  refine pkT 0 46 hS0 ?_
                  try simp only [Act.put, pkA, pkB, pkC]
                  refine pkT 1 47 hS0 ?_
                  try simp only [Act.put, pkA, pkB, pkC]
                  refine wpAnyH_ready (rs := [2]) (by kernel_rfl) (by simp) ?_
                  refine AllReadyH.cons (o := ⟨some 48, _, _, _, _, _⟩) rfl (fun K hK => ?_) AllReadyH.nil
                  go_simp
                  refine (HIn.out _ hS0).mono ?_
                  rintro e wa ⟨rfl, hwa⟩
                  obtain rfl := hwa
                  go_wp2_with fail
                  refine hK.out _ _ (hS0) (fun hS1 => ?_)
                  clear hK K
                  try simp only [Act.put, pkA, pkB, pkC]
                  refine pkT 3 49 hS1 ?_
                  try simp only [Act.put, pkA, pkB, pkC]
                  refine pkT 4 50 hS1 ?_
                  try simp only [Act.put, pkA, pkB, pkC]
                  refine pkU 5 51 hS1 ?_
                  try simp only [Act.put, pkA, pkB, pkC]
                  refine pkU 6 52 hS1 ?_
                  try simp only [Act.put, pkA, pkB, pkC]
                  refine pkU 7 53 hS1 ?_
                  try simp only [Act.put, pkA, pkB, pkC]
                  refine pkU 8 54 hS1 ?_
                  try simp only [Act.put, pkA, pkB, pkC]
                  refine pkU 9 55 hS1 ?_
                  try simp only [Act.put, pkA, pkB, pkC]
                  refine pkU 10 56 hS1 ?_
                  try simp only [Act.put, pkA, pkB, pkC]
                  refine pkU 11 57 hS1 ?_
                  try simp only [Act.put, pkA, pkB, pkC]
                  refine pkU 12 58 hS1 ?_
                  try simp only [Act.put, pkA, pkB, pkC]
                  refine pkU 13 59 hS1 ?_
                  try simp only [Act.put, pkA, pkB, pkC]
                  refine pkT 14 60 hS1 ?_
                  try simp only [Act.put, pkA, pkB, pkC]
                  refine pkT 15 61 hS1 ?_
                  try simp only [Act.put, pkA, pkB, pkC]
                  refine pkT 16 62 hS1 ?_
                  try simp only [Act.put, pkA, pkB, pkC]
                  refine pkT 17 63 hS1 ?_
                  try simp only [Act.put, pkA, pkB, pkC]
                  refine pkT 18 64 hS1 ?_
                  try simp only [Act.put, pkA, pkB, pkC]
                  refine pkT 19 65 hS1 ?_
                  try simp only [Act.put, pkA, pkB, pkC]
                  refine pkT 20 66 hS1 ?_
                  try simp only [Act.put, pkA, pkB, pkC]
                  refine pkT 21 67 hS1 ?_
                  try simp only [Act.put, pkA, pkB, pkC]
                  refine pkT 22 68 hS1 ?_
                  try simp only [Act.put, pkA, pkB, pkC]
                  refine pkT 23 69 hS1 ?_
                  try simp only [Act.put, pkA, pkB, pkC]
                  refine pkT 24 70 hS1 ?_
                  try simp only [Act.put, pkA, pkB, pkC]
                  refine pkT 25 71 hS1 ?_
                  try simp only [Act.put, pkA, pkB, pkC]
                  refine pkT 26 72 hS1 ?_
                  try simp only [Act.put, pkA, pkB, pkC]
                  refine pkT 27 73 hS1 ?_
                  try simp only [Act.put, pkA, pkB, pkC]
                  refine pkT 28 74 hS1 ?_
                  try simp only [Act.put, pkA, pkB, pkC]
                  refine pkT 29 75 hS1 ?_
                  try simp only [Act.put, pkA, pkB, pkC]
                  refine pkT 30 76 hS1 ?_
                  try simp only [Act.put, pkA, pkB, pkC]
                  refine pkT 31 77 hS1 ?_
                  try simp only [Act.put, pkA, pkB, pkC]
                  refine pkT 32 78 hS1 ?_
                  try simp only [Act.put, pkA, pkB, pkC]
                  refine pkT 33 79 hS1 ?_
                  try simp only [Act.put, pkA, pkB, pkC]
                  refine pkT 34 80 hS1 ?_
                  try simp only [Act.put, pkA, pkB, pkC]
                  refine pkT 35 81 hS1 ?_
                  try simp only [Act.put, pkA, pkB, pkC]
                  refine pkT 36 82 hS1 ?_
                  try simp only [Act.put, pkA, pkB, pkC]
                  refine pkT 37 83 hS1 ?_
                  try simp only [Act.put, pkA, pkB, pkC]
                  refine pkT 38 84 hS1 ?_
                  try simp only [Act.put, pkA, pkB, pkC]
                  refine pkT 39 85 hS1 ?_
                  try simp only [Act.put, pkA, pkB, pkC]
                  refine pkT 40 86 hS1 ?_
                  try simp only [Act.put, pkA, pkB, pkC]
                  refine pkT 41 87 hS1 ?_
                  try simp only [Act.put, pkA, pkB, pkC]
                  refine pkT 42 88 hS1 ?_
                  try simp only [Act.put, pkA, pkB, pkC]
                  refine pkT 43 89 hS1 ?_
                  try simp only [Act.put, pkA, pkB, pkC]
                  refine pkT 44 90 hS1 ?_
                  try simp only [Act.put, pkA, pkB, pkC]
                  refine pkT 45 91 hS1 ?_
                  try simp only [Act.put, pkA, pkB, pkC]
                  refine pkT 46 92 hS1 ?_
                  try simp only [Act.put, pkA, pkB, pkC]
                  refine pkT 47 93 hS1 ?_
                  try simp only [Act.put, pkA, pkB, pkC]
                  refine pkT 48 94 hS1 ?_
                  try simp only [Act.put, pkA, pkB, pkC]
                  refine pkT 49 95 hS1 ?_
                  try simp only [Act.put, pkA, pkB, pkC]
                  refine pkT 50 96 hS1 ?_
                  try simp only [Act.put, pkA, pkB, pkC]
                  refine pkT 51 97 hS1 ?_
                  try simp only [Act.put, pkA, pkB, pkC]
                  refine pkT 52 98 hS1 ?_
                  try simp only [Act.put, pkA, pkB, pkC]
                  refine pkT 53 99 hS1 ?_
                  try simp only [Act.put, pkA, pkB, pkC]
                  refine pkT 54 100 hS1 ?_
                  try simp only [Act.put, pkA, pkB, pkC]
                  refine pkT 55 101 hS1 ?_
                  try simp only [Act.put, pkA, pkB, pkC]
                  refine pkU 56 102 hS1 ?_
                  try simp only [Act.put, pkA, pkB, pkC]
                  refine pkU 57 103 hS1 ?_
                  try simp only [Act.put, pkA, pkB, pkC]
                  refine pkU 58 104 hS1 ?_
                  try simp only [Act.put, pkA, pkB, pkC]
                  refine pkU 59 105 hS1 ?_
                  try simp only [Act.put, pkA, pkB, pkC]
                  refine pkU 60 106 hS1 ?_
                  try simp only [Act.put, pkA, pkB, pkC]
                  refine pkU 61 107 hS1 ?_
                  try simp only [Act.put, pkA, pkB, pkC]
                  refine pkT 62 108 hS1 ?_
                  try simp only [Act.put, pkA, pkB, pkC]
                  refine pkT 63 109 hS1 ?_
                  try simp only [Act.put, pkA, pkB, pkC]
                  refine wpAnyH_done (by kernel_rfl) ?_ _
                  have HWx := Lib.hid hS1
                  clear hS0
                  go_wp2_with fail
                  refine wp_region_held_drew (S := fun u => Below w7.heap.size w7 u) (by kernel_rfl) (HWx.out.drew) (fun hS0 => ?_)
                  refine pkT 0 110 hS0 ?_
                  try simp only [Act.put, pkA, pkB, pkC]
                  refine pkT 1 111 hS0 ?_
                  try simp only [Act.put, pkA, pkB, pkC]
                  refine wpAnyH_ready (rs := [2]) (by kernel_rfl) (by simp) ?_
                  refine AllReadyH.cons (o := ⟨some 112, _, _, _, _, _⟩) rfl (fun K hK => ?_) AllReadyH.nil
                  go_simp
                  refine (HIn.out _ hS0).mono ?_
                  rintro e wa ⟨rfl, hwa⟩
                  obtain rfl := hwa
                  go_wp2_with fail
                  refine hK.out _ _ (hS0) (fun hS1 => ?_)
                  clear hK K
                  try simp only [Act.put, pkA, pkB, pkC]
                  refine pkT 3 113 hS1 ?_
                  try simp only [Act.put, pkA, pkB, pkC]
                  refine pkT 4 114 hS1 ?_
                  try simp only [Act.put, pkA, pkB, pkC]
                  refine pkT 5 115 hS1 ?_
                  try simp only [Act.put, pkA, pkB, pkC]
                  refine pkT 6 116 hS1 ?_
                  try simp only [Act.put, pkA, pkB, pkC]
                  refine pkT 7 117 hS1 ?_
                  try simp only [Act.put, pkA, pkB, pkC]
                  refine pkT 8 118 hS1 ?_
                  try simp only [Act.put, pkA, pkB, pkC]
                  refine pkT 9 119 hS1 ?_
                  try simp only [Act.put, pkA, pkB, pkC]
                  refine pkT 10 120 hS1 ?_
                  try simp only [Act.put, pkA, pkB, pkC]
                  refine pkT 11 121 hS1 ?_
                  try simp only [Act.put, pkA, pkB, pkC]
                  refine pkT 12 122 hS1 ?_
                  try simp only [Act.put, pkA, pkB, pkC]
                  refine pkT 13 123 hS1 ?_
                  try simp only [Act.put, pkA, pkB, pkC]
                  refine pkT 14 124 hS1 ?_
                  try simp only [Act.put, pkA, pkB, pkC]
                  refine pkT 15 125 hS1 ?_
                  try simp only [Act.put, pkA, pkB, pkC]
                  refine pkT 16 126 hS1 ?_
                  try simp only [Act.put, pkA, pkB, pkC]
                  refine wpAnyH_done (by kernel_rfl) ?_ _
                  have HWy := Lib.hid hS1
                  clear hS0
                  go_wp2_with fail
                  refine wp_region_held_drew (S := fun u => Below w7.heap.size w7 u) (by kernel_rfl) (HWy.out.drew) (fun hS0 => ?_)
                  refine pkT 0 127 hS0 ?_
                  try simp only [Act.put, pkA, pkB, pkC]
                  refine pkT 1 128 hS0 ?_
                  try simp only [Act.put, pkA, pkB, pkC]
                  refine pkT 2 129 hS0 ?_
                  try simp only [Act.put, pkA, pkB, pkC]
                  refine pkT 3 130 hS0 ?_
                  try simp only [Act.put, pkA, pkB, pkC]
                  refine pkT 4 131 hS0 ?_
                  try simp only [Act.put, pkA, pkB, pkC]
                  refine pkT 5 132 hS0 ?_
                  try simp only [Act.put, pkA, pkB, pkC]
                  refine pkT 6 133 hS0 ?_
                  try simp only [Act.put, pkA, pkB, pkC]
                  refine pkT 7 134 hS0 ?_
                  try simp only [Act.put, pkA, pkB, pkC]
                  refine pkT 8 135 hS0 ?_
                  try simp only [Act.put, pkA, pkB, pkC]
                  refine pkT 9 136 hS0 ?_
                  try simp only [Act.put, pkA, pkB, pkC]
                  refine pkT 10 137 hS0 ?_
                  try simp only [Act.put, pkA, pkB, pkC]
                  refine pkT 11 138 hS0 ?_
                  try simp only [Act.put, pkA, pkB, pkC]
                  refine pkT 12 139 hS0 ?_
                  try simp only [Act.put, pkA, pkB, pkC]
                  refine pkT 13 10 hS0 ?_
                  try simp only [Act.put, pkA, pkB, pkC]
                  refine wpAnyH_done (by kernel_rfl) ?_ _
                  have HWz := Lib.hid hS0
                  clear hS0
                  go_wp2_with fail
                  go_roundw
                  case rel => exact ⟨i + 1, by go_num, by rw [HNx.out], by omega, HWz⟩
                  case measure => simp [intOf]; omega
              · have hd : decide (0 < z) = false := decide_eq_false hz0
                simp only [hd, Bool.and_false, Bool.not_false] at cp2
                as_aux_lemma =>
                  go_wp2_with fail
                  refine wp_region_held_drew (S := fun u => Below w7.heap.size w7 u) (by kernel_rfl) (HW2.drew) (fun hS0 => ?_)
                  refine pkT 0 46 hS0 ?_
                  try simp only [Act.put, pkA, pkB, pkC]
                  refine pkT 1 47 hS0 ?_
                  try simp only [Act.put, pkA, pkB, pkC]
                  refine wpAnyH_ready (rs := [2]) (by kernel_rfl) (by simp) ?_
                  refine AllReadyH.cons (o := ⟨some 48, _, _, _, _, _⟩) rfl (fun K hK => ?_) AllReadyH.nil
                  go_simp
                  refine (HIn.out _ hS0).mono ?_
                  rintro e wa ⟨rfl, hwa⟩
                  obtain rfl := hwa
                  go_wp2_with fail
                  refine hK.out _ _ (hS0) (fun hS1 => ?_)
                  clear hK K
                  try simp only [Act.put, pkA, pkB, pkC]
                  refine pkT 3 49 hS1 ?_
                  try simp only [Act.put, pkA, pkB, pkC]
                  refine pkT 4 50 hS1 ?_
                  try simp only [Act.put, pkA, pkB, pkC]
                  refine pkU 5 51 hS1 ?_
                  try simp only [Act.put, pkA, pkB, pkC]
                  refine pkU 6 52 hS1 ?_
                  try simp only [Act.put, pkA, pkB, pkC]
                  refine pkU 7 53 hS1 ?_
                  try simp only [Act.put, pkA, pkB, pkC]
                  refine pkU 8 54 hS1 ?_
                  try simp only [Act.put, pkA, pkB, pkC]
                  refine pkU 9 55 hS1 ?_
                  try simp only [Act.put, pkA, pkB, pkC]
                  refine pkU 10 56 hS1 ?_
                  try simp only [Act.put, pkA, pkB, pkC]
                  refine pkU 11 57 hS1 ?_
                  try simp only [Act.put, pkA, pkB, pkC]
                  refine pkU 12 58 hS1 ?_
                  try simp only [Act.put, pkA, pkB, pkC]
                  refine pkU 13 59 hS1 ?_
                  try simp only [Act.put, pkA, pkB, pkC]
                  refine pkT 14 60 hS1 ?_
                  try simp only [Act.put, pkA, pkB, pkC]
                  refine pkT 15 61 hS1 ?_
                  try simp only [Act.put, pkA, pkB, pkC]
                  refine pkT 16 62 hS1 ?_
                  try simp only [Act.put, pkA, pkB, pkC]
                  refine pkT 17 63 hS1 ?_
                  try simp only [Act.put, pkA, pkB, pkC]
                  refine pkT 18 64 hS1 ?_
                  try simp only [Act.put, pkA, pkB, pkC]
                  refine pkT 19 65 hS1 ?_
                  try simp only [Act.put, pkA, pkB, pkC]
                  refine pkT 20 66 hS1 ?_
                  try simp only [Act.put, pkA, pkB, pkC]
                  refine pkT 21 67 hS1 ?_
                  try simp only [Act.put, pkA, pkB, pkC]
                  refine pkT 22 68 hS1 ?_
                  try simp only [Act.put, pkA, pkB, pkC]
                  refine pkT 23 69 hS1 ?_
                  try simp only [Act.put, pkA, pkB, pkC]
                  refine pkT 24 70 hS1 ?_
                  try simp only [Act.put, pkA, pkB, pkC]
                  refine pkT 25 71 hS1 ?_
                  try simp only [Act.put, pkA, pkB, pkC]
                  refine pkT 26 72 hS1 ?_
                  try simp only [Act.put, pkA, pkB, pkC]
                  refine pkT 27 73 hS1 ?_
                  try simp only [Act.put, pkA, pkB, pkC]
                  refine pkT 28 74 hS1 ?_
                  try simp only [Act.put, pkA, pkB, pkC]
                  refine pkT 29 75 hS1 ?_
                  try simp only [Act.put, pkA, pkB, pkC]
                  refine pkT 30 76 hS1 ?_
                  try simp only [Act.put, pkA, pkB, pkC]
                  refine pkT 31 77 hS1 ?_
                  try simp only [Act.put, pkA, pkB, pkC]
                  refine pkT 32 78 hS1 ?_
                  try simp only [Act.put, pkA, pkB, pkC]
                  refine pkT 33 79 hS1 ?_
                  try simp only [Act.put, pkA, pkB, pkC]
                  refine pkT 34 80 hS1 ?_
                  try simp only [Act.put, pkA, pkB, pkC]
                  refine pkT 35 81 hS1 ?_
                  try simp only [Act.put, pkA, pkB, pkC]
                  refine pkT 36 82 hS1 ?_
                  try simp only [Act.put, pkA, pkB, pkC]
                  refine pkT 37 83 hS1 ?_
                  try simp only [Act.put, pkA, pkB, pkC]
                  refine pkT 38 84 hS1 ?_
                  try simp only [Act.put, pkA, pkB, pkC]
                  refine pkT 39 85 hS1 ?_
                  try simp only [Act.put, pkA, pkB, pkC]
                  refine pkT 40 86 hS1 ?_
                  try simp only [Act.put, pkA, pkB, pkC]
                  refine pkT 41 87 hS1 ?_
                  try simp only [Act.put, pkA, pkB, pkC]
                  refine pkT 42 88 hS1 ?_
                  try simp only [Act.put, pkA, pkB, pkC]
                  refine pkT 43 89 hS1 ?_
                  try simp only [Act.put, pkA, pkB, pkC]
                  refine pkT 44 90 hS1 ?_
                  try simp only [Act.put, pkA, pkB, pkC]
                  refine pkT 45 91 hS1 ?_
                  try simp only [Act.put, pkA, pkB, pkC]
                  refine pkT 46 92 hS1 ?_
                  try simp only [Act.put, pkA, pkB, pkC]
                  refine pkT 47 93 hS1 ?_
                  try simp only [Act.put, pkA, pkB, pkC]
                  refine pkT 48 94 hS1 ?_
                  try simp only [Act.put, pkA, pkB, pkC]
                  refine pkT 49 95 hS1 ?_
                  try simp only [Act.put, pkA, pkB, pkC]
                  refine pkT 50 96 hS1 ?_
                  try simp only [Act.put, pkA, pkB, pkC]
                  refine pkT 51 97 hS1 ?_
                  try simp only [Act.put, pkA, pkB, pkC]
                  refine pkT 52 98 hS1 ?_
                  try simp only [Act.put, pkA, pkB, pkC]
                  refine pkT 53 99 hS1 ?_
                  try simp only [Act.put, pkA, pkB, pkC]
                  refine pkT 54 100 hS1 ?_
                  try simp only [Act.put, pkA, pkB, pkC]
                  refine pkT 55 101 hS1 ?_
                  try simp only [Act.put, pkA, pkB, pkC]
                  refine pkT 56 102 hS1 ?_
                  try simp only [Act.put, pkA, pkB, pkC]
                  refine pkT 57 103 hS1 ?_
                  try simp only [Act.put, pkA, pkB, pkC]
                  refine pkT 58 104 hS1 ?_
                  try simp only [Act.put, pkA, pkB, pkC]
                  refine pkT 59 105 hS1 ?_
                  try simp only [Act.put, pkA, pkB, pkC]
                  refine pkT 60 106 hS1 ?_
                  try simp only [Act.put, pkA, pkB, pkC]
                  refine pkT 61 107 hS1 ?_
                  try simp only [Act.put, pkA, pkB, pkC]
                  refine pkT 62 108 hS1 ?_
                  try simp only [Act.put, pkA, pkB, pkC]
                  refine pkT 63 109 hS1 ?_
                  try simp only [Act.put, pkA, pkB, pkC]
                  refine wpAnyH_done (by kernel_rfl) ?_ _
                  have HWx := Lib.hid hS1
                  clear hS0
                  go_wp2_with fail
                  refine wp_region_held_drew (S := fun u => Below w7.heap.size w7 u) (by kernel_rfl) (HWx.out.drew) (fun hS0 => ?_)
                  refine pkT 0 110 hS0 ?_
                  try simp only [Act.put, pkA, pkB, pkC]
                  refine pkT 1 111 hS0 ?_
                  try simp only [Act.put, pkA, pkB, pkC]
                  refine wpAnyH_ready (rs := [2]) (by kernel_rfl) (by simp) ?_
                  refine AllReadyH.cons (o := ⟨some 112, _, _, _, _, _⟩) rfl (fun K hK => ?_) AllReadyH.nil
                  go_simp
                  refine (HIn.out _ hS0).mono ?_
                  rintro e wa ⟨rfl, hwa⟩
                  obtain rfl := hwa
                  go_wp2_with fail
                  refine hK.out _ _ (hS0) (fun hS1 => ?_)
                  clear hK K
                  try simp only [Act.put, pkA, pkB, pkC]
                  refine pkT 3 113 hS1 ?_
                  try simp only [Act.put, pkA, pkB, pkC]
                  refine pkT 4 114 hS1 ?_
                  try simp only [Act.put, pkA, pkB, pkC]
                  refine pkT 5 115 hS1 ?_
                  try simp only [Act.put, pkA, pkB, pkC]
                  refine pkT 6 116 hS1 ?_
                  try simp only [Act.put, pkA, pkB, pkC]
                  refine pkT 7 117 hS1 ?_
                  try simp only [Act.put, pkA, pkB, pkC]
                  refine pkT 8 118 hS1 ?_
                  try simp only [Act.put, pkA, pkB, pkC]
                  refine pkT 9 119 hS1 ?_
                  try simp only [Act.put, pkA, pkB, pkC]
                  refine pkT 10 120 hS1 ?_
                  try simp only [Act.put, pkA, pkB, pkC]
                  refine pkT 11 121 hS1 ?_
                  try simp only [Act.put, pkA, pkB, pkC]
                  refine pkT 12 122 hS1 ?_
                  try simp only [Act.put, pkA, pkB, pkC]
                  refine pkT 13 123 hS1 ?_
                  try simp only [Act.put, pkA, pkB, pkC]
                  refine pkT 14 124 hS1 ?_
                  try simp only [Act.put, pkA, pkB, pkC]
                  refine pkT 15 125 hS1 ?_
                  try simp only [Act.put, pkA, pkB, pkC]
                  refine pkT 16 126 hS1 ?_
                  try simp only [Act.put, pkA, pkB, pkC]
                  refine wpAnyH_done (by kernel_rfl) ?_ _
                  have HWy := Lib.hid hS1
                  clear hS0
                  go_wp2_with fail
                  refine wp_region_held_drew (S := fun u => Below w7.heap.size w7 u) (by kernel_rfl) (HWy.out.drew) (fun hS0 => ?_)
                  refine pkT 0 127 hS0 ?_
                  try simp only [Act.put, pkA, pkB, pkC]
                  refine pkT 1 128 hS0 ?_
                  try simp only [Act.put, pkA, pkB, pkC]
                  refine pkT 2 129 hS0 ?_
                  try simp only [Act.put, pkA, pkB, pkC]
                  refine pkT 3 130 hS0 ?_
                  try simp only [Act.put, pkA, pkB, pkC]
                  refine pkT 4 131 hS0 ?_
                  try simp only [Act.put, pkA, pkB, pkC]
                  refine pkT 5 132 hS0 ?_
                  try simp only [Act.put, pkA, pkB, pkC]
                  refine pkT 6 133 hS0 ?_
                  try simp only [Act.put, pkA, pkB, pkC]
                  refine pkT 7 134 hS0 ?_
                  try simp only [Act.put, pkA, pkB, pkC]
                  refine pkT 8 135 hS0 ?_
                  try simp only [Act.put, pkA, pkB, pkC]
                  refine pkT 9 136 hS0 ?_
                  try simp only [Act.put, pkA, pkB, pkC]
                  refine pkT 10 137 hS0 ?_
                  try simp only [Act.put, pkA, pkB, pkC]
                  refine pkT 11 138 hS0 ?_
                  try simp only [Act.put, pkA, pkB, pkC]
                  refine pkT 12 139 hS0 ?_
                  try simp only [Act.put, pkA, pkB, pkC]
                  refine pkT 13 10 hS0 ?_
                  try simp only [Act.put, pkA, pkB, pkC]
                  refine wpAnyH_done (by kernel_rfl) ?_ _
                  have HWz := Lib.hid hS0
                  clear hS0
                  go_wp2_with fail
                  go_roundw
                  case rel => exact ⟨i + 1, by go_num, by rw [HNx.out], by omega, HWz⟩
                  case measure => simp [intOf]; omega
        · have k1 : ¬ (i : Int) < (k : Int) := by omega
          obtain rfl : i = k := by omega
          have hS : nsum (vs.take i) - nsum (ys.take i) = z := by
            rw [List.take_of_length_le (by rw [HT7.out.row.len]; omega), List.take_of_length_le (by rw [HKp.out.len, HT7.out.row.len]; omega), HKp.out.sum]; omega
          rw [hS]
          have HB9 := Lib.hid (HT7.out.below.trans (HW.out.mono HT7.out.below.size))
          clear hS
          go_wp2
          go_ret
          exact ⟨by first | rfl | simp [hzp], HB9.out⟩
set_option maxRecDepth 100000 in
theorem lifted (os : Os) (started : os.Started) (H : Type) (enc : TypeId × Value → H) :
    ReturnsInHanded {} Try.checked os 3 .any (Rows.cutKeepsSpec.pre6 enc Try.prog Try.f3 Rows.cutKeepsRow.domain false) (Rows.cutKeepsSpec.post enc Try.prog Try.f3 false true false false) := by
  refine returnsInHanded_of_change (C := Try.checked) own started (by kernel_rfl) Try.func3
    (ChangeSpec.witness6 (enc := enc) (C := Try.checked) false ⟨#[], #[.agg #[.string ⟨#[]⟩, .int .i64 0, .int .i64 0, .string ⟨#[]⟩, .string ⟨#[]⟩, .bool false, .slice none 0 0, .slice none 0 0, .int .i64 0, .int .i64 0, .int .i64 0, .int .i64 0, .int .i64 0, .slice none 0 0, .slice none 0 0], .slice none 0 0, .int .u64 0], []⟩ 8 (by kernel_rfl) (by kernel_rfl) (by kernel_rfl) (by kernel_rfl)) ?_
  intro W base args ds gs before hval0 hW hcnd _
  have hval : ∀ (j : Nat) t v, Try.f3.params[j]? = some t → args[j]? = some v → Value.okWide Try.prog W .any base t v := hval0
  have hW' := hW
  obtain ⟨p, q, hA0, hV, rfl, hfz, hnd⟩ := hW
  have hA : DataW.TrodAll enc Try.prog W 0 (fun _ => true) true Try.f3.params.toList args.toList ds p := hA0
  rw [Try.params3] at hA hval
  obtain ⟨v0, vs0, d0, ds0, p0, q0, hargs, rfl, rfl, h0, r0⟩ := trodAll_cons hA
  obtain ⟨v1, vs1, d1, ds1, p1, q1, rfl, rfl, rfl, h1, r1⟩ := trodAll_cons r0
  obtain ⟨v2, vs2, d2, ds2, p2, q2, rfl, rfl, rfl, h2, r2⟩ := trodAll_cons r1
  obtain ⟨rfl, rfl, rfl⟩ := trodAll_nil r2
  obtain rfl : args = #[v0, v1, v2] := by cases args; simp_all
  obtain ⟨cs0, p0, rfl, r0⟩ := Kd.open_struct Ap.reads_Prm Try.underlying28 (hval 0 28 v0 rfl rfl) h0; obtain ⟨l0, rfl, x0⟩ := Ap.Prm_rep.1 r0
  obtain ⟨A1, n1, c1, xs1, rfl, x1, y1⟩ := Kd.open_list Ap.reads_Unt Try.underlying29 (by decide) (hval 1 29 v1 rfl rfl) h1
  obtain ⟨a2, rfl, _, _, w2⟩ := open_int Try.underlying30 (hval 2 30 v2 rfl rfl) h2
  refine (walk W p0 l0 x0 A1 n1 c1 xs1 x1 y1 a2 w2).mono fun e W' ⟨he, hb⟩ => ?_
  subst he
  exact ⟨_, rfl, Hk.closeLaw (tb := 4) (by kernel_rfl) (by kernel_rfl) rfl rfl rfl Try.underlying4 hW' hb⟩
theorem over : Rows.cutKeepsRow.holds Try.pinned (OpenSpec.ofChange Rows.cutKeepsSpec) :=
  OpenClaim.holds_of_wide 3 Try.f3 rfl rfl rfl rfl rfl rfl rfl ⟨rfl, rfl, rfl, rfl, rfl⟩ rfl rfl rfl rfl rfl (by kernel_rfl) Try.func3 (by kernel_rfl)
    (of_decide_eq_true (by kernel_rfl)) (by unfold Func.isWrapper; first | (rw [if_pos (by decide +kernel)]; kernel_rfl) | (rw [if_neg (by decide +kernel)]; exact ⟨rfl, rfl⟩))
    (fun os started H enc _ => lifted os started H enc)
theorem proved : Rows.CutKeepsSaid :=
  over
end Go.Proofs.Ytacmoanhbkipfaa.cutKeeps
